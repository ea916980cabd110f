package queue_test

import (
	"fmt"
	"math"
	"math/rand"
	"slices"
	"strconv"
	"testing"

	"outlaw/api"
	"outlaw/queue"
)

const most = 1 << 60

func ban(user string) api.Action {
	return api.Action{Kind: api.ActBan, Room: "!r:s", Subject: user, Reason: "why"}
}

func job(txn int64, user string) api.Job { return api.Job{Txn: txn, Action: ban(user)} }

// bans are n actions of which no two are alike.
func bans(n int, prefix string) []api.Action {
	var l []api.Action
	for i := range n {
		l = append(l, ban(prefix+strconv.Itoa(i)))
	}
	return l
}

// jobs are n waiting jobs.
func jobs(n int) []api.Job {
	var l []api.Job
	for i := range n {
		l = append(l, job(int64(i+1), "job"+strconv.Itoa(i)))
	}
	return l
}

// check says that a queue is what it should be, and valid.
func check(t *testing.T, what string, got, want api.Queue) {
	t.Helper()
	if !queue.Same(got, want) {
		t.Errorf("%s: %v, want %v", what, got, want)
	}
	if queue.Check(got) != api.OK {
		t.Errorf("%s: the queue is not valid", what)
	}
}

func TestP22_1EmptyAndCheck(t *testing.T) {
	check(t, "Empty", queue.Empty(), api.Queue{Next: 1})
	good := func() api.Queue {
		return api.Queue{Jobs: []api.Job{job(2, "a"), {Txn: 5, Action: ban("b"), Flying: true, Doubt: true, Tries: 4, At: most + 64}}, Next: 6, Now: most, Failed: bans(64, "f"), Settled: bans(64, "s"), Resync: true}
	}
	fly := func(n int) []api.Job {
		l := jobs(6)
		for i := range n {
			l[i].Flying = true
		}
		return l
	}
	for i, x := range []struct {
		do   func(q *api.Queue)
		want api.Errno
	}{
		{func(q *api.Queue) {}, 0}, {func(q *api.Queue) { *q = api.Queue{} }, api.ErrArg}, {func(q *api.Queue) { q.Next = most }, 0}, {func(q *api.Queue) { q.Next = most + 1 }, api.ErrArg}, {func(q *api.Queue) { q.Next = 5 }, api.ErrArg}, {func(q *api.Queue) { q.Next = -1 }, api.ErrArg},
		{func(q *api.Queue) { q.Jobs, q.Next = nil, 0 }, api.ErrArg}, {func(q *api.Queue) { q.Jobs, q.Next = nil, 1 }, 0}, {func(q *api.Queue) { q.Now = most + 1 }, api.ErrArg}, {func(q *api.Queue) { q.Now = -1 }, api.ErrArg}, {func(q *api.Queue) { q.Now = 0 }, 0},
		{func(q *api.Queue) { q.Jobs[0].Txn = 0 }, api.ErrArg}, {func(q *api.Queue) { q.Jobs[0].Txn = 1 }, 0}, {func(q *api.Queue) { q.Jobs[0].Txn = 5 }, api.ErrArg}, {func(q *api.Queue) { q.Jobs[0].Txn = 6 }, api.ErrArg}, {func(q *api.Queue) { q.Jobs[0].Txn = -3 }, api.ErrArg},
		{func(q *api.Queue) { q.Jobs[1].Tries = 5 }, api.ErrArg}, {func(q *api.Queue) { q.Jobs[1].Tries = -1 }, api.ErrArg}, {func(q *api.Queue) { q.Jobs[1].At = most + 65 }, api.ErrArg}, {func(q *api.Queue) { q.Jobs[1].At = -1 }, api.ErrArg},
		{func(q *api.Queue) { q.Jobs[0].Action.Kind = 0 }, api.ErrArg}, {func(q *api.Queue) { q.Jobs[0].Action.Kind = 5 }, api.ErrArg}, {func(q *api.Queue) { q.Jobs[0].Action.Kind = api.ActRedact }, 0}, {func(q *api.Queue) { q.Failed[63].Kind = 5 }, api.ErrArg}, {func(q *api.Queue) { q.Settled[0].Kind = 0 }, api.ErrArg},
		{func(q *api.Queue) { q.Jobs[0].Action = ban("b") }, api.ErrArg}, {func(q *api.Queue) {
			q.Jobs[0].Action = api.Action{Kind: api.ActBan, Room: "!r:s", Subject: "b", Reason: "other"}
		}, api.ErrArg}, {func(q *api.Queue) { q.Jobs[0].Action = ban("f3") }, api.ErrArg},
		{func(q *api.Queue) { q.Jobs[1].Action = ban("s63") }, api.ErrArg}, {func(q *api.Queue) { q.Failed[1] = ban("s63") }, api.ErrArg}, {func(q *api.Queue) { q.Failed[1] = q.Failed[2] }, api.ErrArg}, {func(q *api.Queue) { q.Settled[1] = q.Settled[2] }, api.ErrArg},
		{func(q *api.Queue) { q.Failed = bans(65, "f") }, api.ErrArg}, {func(q *api.Queue) { q.Settled = bans(65, "s") }, api.ErrArg}, {func(q *api.Queue) { q.Jobs, q.Next = jobs(32), 33 }, 0}, {func(q *api.Queue) { q.Jobs, q.Next = jobs(33), 34 }, api.ErrArg},
		{func(q *api.Queue) { q.Jobs, q.Next = fly(4), 7 }, 0}, {func(q *api.Queue) { q.Jobs, q.Next = fly(5), 7 }, api.ErrArg}, {func(q *api.Queue) { q.Failed, q.Settled, q.Resync = nil, nil, false }, 0},
	} {
		q := good()
		x.do(&q)
		if e := queue.Check(q); e != x.want {
			t.Errorf("%d: Check = %v, want %v", i, e, x.want)
		}
	}
}

func TestP22_1AlikeBackoffFindSame(t *testing.T) {
	a := ban("a")
	for i, x := range []struct {
		b    api.Action
		want bool
	}{{a, true}, {api.Action{Kind: 1, Room: "!r:s", Subject: "a", Reason: "other", Deny: "x"}, true}, {api.Action{Kind: 2, Room: "!r:s", Subject: "a", Reason: "why"}, false}, {api.Action{Kind: 1, Room: "!q:s", Subject: "a", Reason: "why"}, false}, {ban("b"), false}} {
		if got := queue.Alike(a, x.b); got != x.want || queue.Alike(x.b, a) != got {
			t.Errorf("%d: Alike = %v", i, got)
		}
	}
	for n, want := range map[int]int64{math.MinInt: 0, -1: 0, 0: 0, 1: 2, 2: 4, 3: 8, 4: 16, 5: 32, 6: 64, 7: 64, 63: 64, 64: 64, 1000: 64, math.MaxInt: 64} {
		if got := queue.Backoff(n); got != want {
			t.Errorf("Backoff(%d) = %d", n, got)
		}
	}
	q := api.Queue{Jobs: []api.Job{job(2, "a"), job(5, "b")}, Next: 6}
	for txn, want := range map[int64]api.Job{2: q.Jobs[0], 5: q.Jobs[1], 0: {}, 1: {}, 3: {}, 6: {}, -2: {}} {
		if got, is := queue.Find(q, txn); got != want || is != (want.Txn != 0) {
			t.Errorf("Find(%d) = %v, %v", txn, got, is)
		}
	}
	one := job(1, "a")
	l := []api.Queue{{}, {Next: 1}, {Now: 1}, {Resync: true}, {Failed: bans(1, "a")}, {Failed: bans(2, "a")}, {Settled: bans(1, "a")}, {Jobs: []api.Job{one}}, {Jobs: []api.Job{one, one}}}
	for _, do := range []func(j *api.Job){func(j *api.Job) { j.Txn = 2 }, func(j *api.Job) { j.Flying = true }, func(j *api.Job) { j.Doubt = true }, func(j *api.Job) { j.Tries = 1 }, func(j *api.Job) { j.At = 1 }, func(j *api.Job) { j.Action.Reason = "x" }, func(j *api.Job) { j.Action.Deny = "x" }} {
		j := one
		do(&j)
		l = append(l, api.Queue{Jobs: []api.Job{j}})
	}
	for i, a := range l {
		for j, b := range l {
			b.Jobs, b.Failed, b.Settled = slices.Clone(b.Jobs), slices.Clone(b.Failed), slices.Clone(b.Settled)
			if got := queue.Same(a, b); got != (i == j) {
				t.Errorf("Same of %d and %d is %v", i, j, got)
			}
		}
	}
	if !queue.Same(api.Queue{Jobs: []api.Job{}, Failed: []api.Action{}, Settled: []api.Action{}}, api.Queue{}) {
		t.Error("a nil slice and an empty one are the same")
	}
}

func TestP22_2Put(t *testing.T) {
	base := api.Queue{Jobs: []api.Job{job(3, "a")}, Next: 7, Now: 9, Failed: bans(1, "f"), Settled: bans(1, "s")}
	for i, x := range []struct {
		do   func(q *api.Queue)
		a    api.Action
		want api.Errno
	}{
		{nil, ban("b"), 0}, {nil, api.Action{Kind: api.ActUnban, Room: "!r:s", Subject: "a"}, 0}, {nil, api.Action{Kind: api.ActRedact}, 0}, {nil, api.Action{}, api.ErrArg}, {nil, api.Action{Kind: 5, Room: "!r:s", Subject: "a"}, api.ErrArg}, {nil, api.Action{Kind: -1}, api.ErrArg},
		{nil, ban("a"), api.ErrTwice}, {nil, ban("f0"), api.ErrTwice}, {nil, ban("s0"), api.ErrTwice}, {nil, api.Action{Kind: api.ActBan, Room: "!r:s", Subject: "s0", Reason: "other"}, api.ErrTwice},
		{func(q *api.Queue) { q.Jobs, q.Next = jobs(32), 40 }, ban("b"), api.ErrFull}, {func(q *api.Queue) { q.Jobs, q.Next = jobs(32), 40 }, ban("s0"), api.ErrTwice}, {func(q *api.Queue) { q.Jobs, q.Next = jobs(32), 40 }, api.Action{}, api.ErrArg}, {func(q *api.Queue) { q.Jobs, q.Next = jobs(31), 40 }, ban("b"), 0},
		{func(q *api.Queue) { q.Next = most }, ban("b"), api.ErrFull}, {func(q *api.Queue) { q.Next = most - 1 }, ban("b"), 0}, {func(q *api.Queue) { q.Next = most }, ban("a"), api.ErrTwice}, {func(q *api.Queue) { q.Resync = true }, ban("b"), 0}, {func(q *api.Queue) { q.Resync = true }, ban("a"), api.ErrTwice},
	} {
		q := base
		if x.do != nil {
			x.do(&q)
		}
		got, txn, e := queue.Put(q, x.a)
		want := q
		switch {
		case x.want == api.OK:
			want.Jobs = append(slices.Clone(q.Jobs), api.Job{Txn: q.Next, Action: x.a, At: q.Now})
			want.Next++
		case x.want == api.ErrFull:
			want.Resync = true
		}
		check(t, fmt.Sprint("Put ", i), got, want)
		if e != x.want || e == api.OK && txn != q.Next || e != api.OK && txn != 0 {
			t.Errorf("%d: Put returns %d, %v", i, txn, e)
		}
	}
}

func TestP22_2WithdrawAndClear(t *testing.T) {
	other := ban("c")
	other.Reason = "another"
	q := api.Queue{Jobs: []api.Job{job(1, "a"), {Txn: 2, Action: ban("b"), Flying: true}, job(3, "c"), {Txn: 4, Action: ban("d"), Doubt: true}, {Txn: 5, Action: ban("e"), At: 99, Tries: 2}, {Txn: 6, Action: ban("f"), Flying: true, Doubt: true}, job(7, "g")},
		Next: 9, Now: 5, Failed: bans(2, "f"), Settled: bans(3, "s"), Resync: true}
	got, gone := queue.Withdraw(q, []api.Action{ban("s1"), ban("a"), other, ban("g"), ban("f0")})
	want := q
	want.Jobs = []api.Job{q.Jobs[0], q.Jobs[1], q.Jobs[3], q.Jobs[5], q.Jobs[6]}
	want.Settled = q.Settled[1:2]
	check(t, "Withdraw", got, want)
	if !slices.Equal(gone, []api.Job{q.Jobs[2], q.Jobs[4]}) {
		t.Error(gone)
	}
	got, gone = queue.Withdraw(q, nil)
	want.Jobs, want.Settled = []api.Job{q.Jobs[1], q.Jobs[3], q.Jobs[5]}, nil
	check(t, "Withdraw all", got, want)
	if len(gone) != 4 {
		t.Error(gone)
	}
	all := append(bans(3, "s"), ban("a"), ban("c"), ban("e"), ban("g"))
	got, gone = queue.Withdraw(q, all)
	check(t, "Withdraw nothing", got, q)
	if len(gone) != 0 {
		t.Error(gone)
	}
	settled := ban("s0")
	settled.Reason = "another"
	if got, _ := queue.Withdraw(q, []api.Action{settled}); len(got.Settled) != 0 {
		t.Error("what is settled with another reason is not kept")
	}
	want = q
	want.Failed, want.Settled = nil, nil
	check(t, "Clear", queue.Clear(q), want)
}

func TestP22_3Next(t *testing.T) {
	wait, fly, doubt, both, late := job(0, ""), job(0, ""), job(0, ""), job(0, ""), job(0, "")
	fly.Flying, doubt.Doubt, both.Flying, both.Doubt, late.At = true, true, true, true, 11
	due := wait
	due.At = 10
	doubtLate := doubt
	doubtLate.At = 99
	for i, x := range []struct {
		l      []api.Job
		barred []int64
		want   int64
	}{
		{nil, nil, 0}, {[]api.Job{wait, wait}, nil, 1}, {[]api.Job{late, due}, nil, 2}, {[]api.Job{late}, nil, 0}, {[]api.Job{fly, wait}, nil, 2}, {[]api.Job{fly, both}, nil, 0}, {[]api.Job{wait, doubt, doubt}, nil, 2}, {[]api.Job{wait, both}, nil, 1}, {[]api.Job{wait, both, doubtLate}, nil, 3},
		{[]api.Job{wait, doubt, doubt}, []int64{2}, 3}, {[]api.Job{wait, doubt, doubt}, []int64{3, 2}, 1}, {[]api.Job{wait, doubt, doubt}, []int64{1, 2, 3}, 0}, {[]api.Job{wait, wait}, []int64{1}, 2}, {[]api.Job{wait}, []int64{7, 0}, 1},
		{[]api.Job{fly, fly, both, wait, doubt}, nil, 5}, {[]api.Job{fly, fly, both, both, wait, doubt}, nil, 0}, {[]api.Job{wait, fly, fly, fly, fly}, nil, 0}, {[]api.Job{wait, fly, fly, fly}, nil, 1},
	} {
		q := api.Queue{Next: 50, Now: 10}
		for j, y := range x.l {
			y.Txn, y.Action = int64(j+1), ban(strconv.Itoa(j))
			q.Jobs = append(q.Jobs, y)
		}
		got, is := queue.Next(q, x.barred)
		if got.Txn != x.want || is != (x.want != 0) || is && got != q.Jobs[x.want-1] || !is && got != (api.Job{}) {
			t.Errorf("%d: Next = %v, %v, want %d", i, got, is, x.want)
		}
	}
}

func TestP22_3Send(t *testing.T) {
	q := api.Queue{Jobs: []api.Job{job(1, "a"), {Txn: 2, Action: ban("b"), Flying: true}, {Txn: 3, Action: ban("c"), Doubt: true, At: 99, Tries: 3}, {Txn: 4, Action: ban("d"), At: 11}, {Txn: 5, Action: ban("e"), At: 10}, {Txn: 6, Action: ban("f"), Flying: true, Doubt: true}}, Next: 9, Now: 10, Failed: bans(2, "x")}
	for txn, e := range map[int64]api.Errno{0: api.ErrNone, 7: api.ErrNone, -1: api.ErrNone, 1: 0, 2: api.ErrState, 3: 0, 4: api.ErrState, 5: 0, 6: api.ErrState} {
		got, err := queue.Send(q, txn)
		want := q
		if e == api.OK {
			want.Jobs = slices.Clone(q.Jobs)
			want.Jobs[txn-1].Flying = true
		}
		check(t, fmt.Sprint("Send ", txn), got, want)
		if err != e {
			t.Errorf("Send(%d): %v", txn, err)
		}
	}
	full := queue.Empty()
	for i := range 6 {
		full, _, _ = queue.Put(full, ban(strconv.Itoa(i)))
	}
	for i := range 6 {
		next, e := queue.Send(full, int64(i+1))
		if (e == api.OK) != (i < 4) || e != api.OK && e != api.ErrState {
			t.Errorf("Send of the job %d: %v", i+1, e)
		}
		full = next
	}
	full = queue.Land(full)
	if next, e := queue.Send(full, 4); e != api.OK || !next.Jobs[3].Flying || !next.Jobs[3].Doubt {
		t.Error("a job in doubt is sent again, and its doubt remains")
	}
}

func TestP22_3Reply(t *testing.T) {
	base := func() api.Queue {
		return api.Queue{Jobs: []api.Job{job(1, "a"), {Txn: 2, Action: ban("b"), Flying: true}, {Txn: 3, Action: ban("c"), Doubt: true, At: 99, Tries: 3}, {Txn: 4, Action: ban("d"), Flying: true, Doubt: true, Tries: 4}}, Next: 9, Now: 10, Failed: bans(2, "x"), Settled: bans(2, "s")}
	}
	wait := func(txn int64, user string, tries int, at int64) api.Job {
		return api.Job{Txn: txn, Action: ban(user), Tries: tries, At: at}
	}
	for i, x := range []struct {
		txn    int64
		ok     bool
		do     func(q *api.Queue)
		result int
		e      api.Errno
		then   func(q *api.Queue)
	}{
		{0, true, nil, 0, api.ErrNone, nil}, {5, false, nil, 0, api.ErrNone, nil}, {-1, true, nil, 0, api.ErrNone, nil}, {1, true, nil, 0, api.ErrState, nil}, {1, false, nil, 0, api.ErrState, nil},
		{2, true, nil, api.Done, 0, func(q *api.Queue) {
			q.Jobs, q.Settled = slices.Delete(q.Jobs, 1, 2), append(q.Settled, ban("b"))
		}},
		{3, true, nil, api.Done, 0, func(q *api.Queue) {
			q.Jobs, q.Settled = slices.Delete(q.Jobs, 2, 3), append(q.Settled, ban("c"))
		}},
		{4, true, nil, api.Done, 0, func(q *api.Queue) { q.Jobs, q.Settled = q.Jobs[:3], append(q.Settled, ban("d")) }},
		{4, true, func(q *api.Queue) { q.Settled = bans(64, "s") }, api.Done, 0, func(q *api.Queue) { q.Jobs, q.Settled = q.Jobs[:3], append(q.Settled[1:], ban("d")) }},
		{4, true, func(q *api.Queue) { q.Settled = bans(63, "s") }, api.Done, 0, func(q *api.Queue) { q.Jobs, q.Settled = q.Jobs[:3], append(q.Settled, ban("d")) }},
		{2, false, nil, api.Again, 0, func(q *api.Queue) { q.Jobs[1] = wait(2, "b", 1, 12) }},
		{3, false, nil, api.Again, 0, func(q *api.Queue) { q.Jobs[2] = wait(3, "c", 4, 26) }},
		{2, false, func(q *api.Queue) { q.Jobs[1].Tries = 1 }, api.Again, 0, func(q *api.Queue) { q.Jobs[1] = wait(2, "b", 2, 14) }},
		{2, false, func(q *api.Queue) { q.Jobs[1].Tries = 2 }, api.Again, 0, func(q *api.Queue) { q.Jobs[1] = wait(2, "b", 3, 18) }},
		{2, false, func(q *api.Queue) { q.Now = most }, api.Again, 0, func(q *api.Queue) { q.Jobs[1] = wait(2, "b", 1, most+2) }},
		{4, false, nil, api.GaveUp, 0, func(q *api.Queue) { q.Jobs, q.Failed = q.Jobs[:3], append(q.Failed, ban("d")) }},
		{4, false, func(q *api.Queue) { q.Failed = bans(63, "x") }, api.GaveUp, 0, func(q *api.Queue) { q.Jobs, q.Failed = q.Jobs[:3], append(q.Failed, ban("d")) }},
		{4, false, func(q *api.Queue) { q.Failed = bans(64, "x") }, api.Again, 0, func(q *api.Queue) { q.Jobs[3] = wait(4, "d", 4, 26) }},
		{2, false, func(q *api.Queue) { q.Failed = bans(64, "x") }, api.Again, 0, func(q *api.Queue) { q.Jobs[1] = wait(2, "b", 1, 12) }},
	} {
		q, want := base(), base()
		if x.do != nil {
			x.do(&q)
			x.do(&want)
		}
		if x.then != nil {
			x.then(&want)
		}
		got, result, e := queue.Reply(q, x.txn, x.ok)
		check(t, fmt.Sprint("Reply ", i), got, want)
		if result != x.result || e != x.e {
			t.Errorf("%d: Reply returns %d, %v", i, result, e)
		}
	}
}

func TestP22_3FiveTimes(t *testing.T) {
	q, _, _ := queue.Put(queue.Empty(), ban("a"))
	for i, wait := range []int64{0, 2, 4, 8, 16} {
		q, _ = queue.Pass(q, max(wait-1, 0))
		if _, is := queue.Next(q, nil); is != (wait == 0) {
			t.Error("it is not due yet", wait)
		}
		if _, e := queue.Send(q, 1); (e == api.ErrState) != (wait != 0) {
			t.Error(e)
		}
		q, _ = queue.Pass(q, min(wait, 1))
		if j, is := queue.Next(q, nil); !is || j.Txn != 1 || j.Tries != i {
			t.Error("it is due", wait, j)
		}
		q, _ = queue.Send(q, 1)
		result := 0
		q, result, _ = queue.Reply(q, 1, false)
		if want := map[bool]int{false: api.Again, true: api.GaveUp}[i == 4]; result != want {
			t.Errorf("failure %d: %d", i+1, result)
		}
	}
	check(t, "after five failures", q, api.Queue{Next: 2, Now: 30, Failed: []api.Action{ban("a")}})
	if _, _, e := queue.Put(q, ban("a")); e != api.ErrTwice {
		t.Error(e)
	}
	if _, txn, e := queue.Put(queue.Clear(q), ban("a")); txn != 2 || e != api.OK {
		t.Error(txn, e)
	}
}

func TestP22_4PassAndLand(t *testing.T) {
	q := api.Queue{Jobs: []api.Job{job(1, "a"), {Txn: 2, Action: ban("b"), Flying: true, Tries: 2, At: 7}, {Txn: 3, Action: ban("c"), Doubt: true}, {Txn: 4, Action: ban("d"), Flying: true, Doubt: true}}, Next: 9, Now: 10, Failed: bans(2, "x"), Settled: bans(2, "s"), Resync: true}
	for i, x := range []struct {
		now, n int64
		want   api.Errno
	}{
		{10, 0, 0}, {10, 1, 0}, {10, 1000000, 0}, {10, 1000001, api.ErrArg}, {10, -1, api.ErrArg}, {10, math.MaxInt64, api.ErrArg}, {10, math.MinInt64, api.ErrArg}, {most, 0, 0}, {most, 1, api.ErrFull}, {most - 1, 1, 0}, {most - 5, 6, api.ErrFull}, {most - 1000000, 1000000, 0}, {most, 1000001, api.ErrArg}, {most, -1, api.ErrArg},
	} {
		q.Now = x.now
		got, e := queue.Pass(q, x.n)
		want := q
		if x.want == api.OK {
			want.Now += x.n
		}
		check(t, fmt.Sprint("Pass ", i), got, want)
		if e != x.want {
			t.Errorf("%d: Pass: %v", i, e)
		}
	}
	want := q
	want.Jobs = slices.Clone(q.Jobs)
	want.Jobs[1].Flying, want.Jobs[1].Doubt = false, true
	want.Jobs[3].Flying = false
	check(t, "Land", queue.Land(q), want)
	check(t, "Land twice", queue.Land(queue.Land(q)), want)
}

func TestP22_1Examples(t *testing.T) {
	q, txn, e := queue.Put(queue.Empty(), ban("a"))
	if txn != 1 || e != api.OK {
		t.Error(txn, e)
	}
	q, e = queue.Send(q, 1)
	landed := queue.Land(q)
	if j, is := queue.Next(landed, nil); e != api.OK || !is || j.Txn != 1 || !j.Doubt || j.Flying {
		t.Error(j, is, e)
	}
	done, result, _ := queue.Reply(q, 1, true)
	if _, _, e := queue.Put(done, ban("a")); result != api.Done || e != api.ErrTwice {
		t.Error(result, e)
	}
	done, _ = queue.Withdraw(done, nil)
	if _, txn, e := queue.Put(done, ban("a")); txn != 2 || e != api.OK {
		t.Error(txn, e)
	}
}

// Whatever is passed, also what is not valid, the functions return, and change no argument.
func TestP22_1AnyQueue(t *testing.T) {
	r := rand.New(rand.NewSource(29))
	n := func() int64 {
		return []int64{0, 1, 2, 3, -1, most, most + 1, math.MaxInt64, math.MinInt64}[r.Intn(9)]
	}
	some := func(k int) []api.Action {
		l := make([]api.Action, 0, k+3)
		for range k {
			l = append(l, api.Action{Kind: r.Intn(7) - 1, Subject: strconv.Itoa(r.Intn(5))})
		}
		return l
	}
	for range 5000 {
		q := api.Queue{Next: n(), Now: n(), Failed: some(r.Intn(4) * r.Intn(30)), Settled: some(r.Intn(4) * r.Intn(30))}
		q.Jobs = make([]api.Job, 0, 50)
		for range r.Intn(40) {
			q.Jobs = append(q.Jobs, api.Job{Txn: n(), Action: some(1)[0], Flying: r.Intn(9) == 0, Doubt: r.Intn(3) == 0, Tries: int(n()), At: n()})
		}
		before := whole(q)
		allOf(q, some(1)[0], n(), n(), some(3))
		queue.Check(q)
		queue.Find(q, n())
		queue.Next(q, []int64{n()})
		if whole(q) != before {
			t.Fatal("an argument was changed")
		}
	}
}

// whole is a queue in words, with what its lists have to spare.
func whole(q api.Queue) string {
	return fmt.Sprint(q, q.Jobs[:cap(q.Jobs)], q.Failed[:cap(q.Failed)], q.Settled[:cap(q.Settled)])
}

// allOf are the queues that come of a queue.
func allOf(q api.Queue, a api.Action, txn, ticks int64, keep []api.Action) []api.Queue {
	put, _, _ := queue.Put(q, a)
	sent, _ := queue.Send(q, txn)
	yes, _, _ := queue.Reply(q, txn, true)
	no, _, _ := queue.Reply(q, txn, false)
	passed, _ := queue.Pass(q, ticks)
	left, gone := queue.Withdraw(q, keep)
	clear(gone)
	return []api.Queue{put, sent, yes, no, passed, left, queue.Land(q), queue.Clear(q)}
}

// What is returned, also with an error, shares no memory with the queue.
func TestP22_1SharesNothing(t *testing.T) {
	q := api.Queue{Next: 9, Now: 10, Jobs: make([]api.Job, 0, 40), Failed: make([]api.Action, 0, 9), Settled: make([]api.Action, 0, 9)}
	q.Jobs = append(q.Jobs, job(1, "a"), api.Job{Txn: 2, Action: ban("b"), Flying: true}, api.Job{Txn: 3, Action: ban("c"), Doubt: true, Tries: 4})
	q.Failed, q.Settled = append(q.Failed, bans(2, "f")...), append(q.Settled, bans(2, "s")...)
	before := whole(q)
	for _, a := range []api.Action{ban("new"), ban("a"), {}} {
		for txn := range int64(5) {
			for _, ticks := range []int64{-1, 0, 5} {
				for _, x := range allOf(q, a, txn, ticks, []api.Action{ban("a"), ban("s1")}) {
					ruin(x)
				}
				if whole(q) != before {
					t.Fatal("a result shares memory with the queue", a, txn, ticks)
				}
			}
		}
	}
}

// ruin overwrites all that a queue has, also what it has to spare.
func ruin(q api.Queue) {
	clear(q.Jobs[:cap(q.Jobs)])
	clear(q.Failed[:cap(q.Failed)])
	clear(q.Settled[:cap(q.Settled)])
}

func TestP22_5Walks(t *testing.T) {
	r := rand.New(rand.NewSource(30))
	results := map[int]int{}
	for range 60 {
		q := queue.Empty()
		seen := map[int64]bool{}
		for range 400 {
			before := q
			removed := map[int64]bool{}
			txn := r.Int63n(q.Next + 1)
			switch r.Intn(9) {
			case 0, 1, 2:
				var e api.Errno
				q, txn, e = queue.Put(q, ban(strconv.Itoa(r.Intn(60))))
				if e == api.OK && (seen[txn] || txn != before.Next) {
					t.Fatal("a Txn occurs twice", txn)
				}
				seen[txn] = true
			case 3, 4:
				if j, is := queue.Next(q, nil); is {
					var e api.Errno
					if q, e = queue.Send(q, j.Txn); e != api.OK {
						t.Fatal("what is next cannot be sent", e)
					}
				}
			case 5, 6:
				result := 0
				for _, j := range q.Jobs {
					if (j.Flying || j.Doubt) && r.Intn(3) > 0 {
						txn = j.Txn
					}
				}
				q, result, _ = queue.Reply(q, txn, r.Intn(4) == 0)
				results[result]++
				if result == api.Done || result == api.GaveUp {
					removed[txn] = true
				}
			case 7:
				q, _ = queue.Pass(q, r.Int63n(80))
				q = queue.Land(q)
			case 8:
				if r.Intn(30) > 0 {
					continue
				}
				var gone []api.Job
				q, gone = queue.Withdraw(q, bans(55, "")[r.Intn(20):])
				for _, j := range gone {
					if j.Flying || j.Doubt {
						t.Fatal("a job that is flying or in doubt is withdrawn")
					}
					removed[j.Txn] = true
				}
			}
			if queue.Check(q) != api.OK {
				t.Fatal("what is returned is not valid", q)
			}
			for _, j := range before.Jobs {
				if _, is := queue.Find(q, j.Txn); is == removed[j.Txn] {
					t.Fatal("a job is removed by something else", j)
				}
			}
		}
	}
	if results[api.Done] < 100 || results[api.Again] < 100 || results[api.GaveUp] < 10 {
		t.Error(results)
	}
}
