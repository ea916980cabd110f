package run_test

import (
	"fmt"
	"math"
	"math/rand"
	"slices"
	"strings"
	"testing"

	"outlaw/api"
	"outlaw/audit"
	"outlaw/disk"
	"outlaw/home"
	"outlaw/machine"
	"outlaw/plan"
	"outlaw/record"
	"outlaw/run"
	"outlaw/tower"
	"outlaw/wal"
)

func step(in api.Input) api.Step { return api.Step{Input: in} }

func crash(in api.Input, cuts ...int) api.Step { return api.Step{Crash: true, Input: in, Cuts: cuts} }

func scriptOf(sectors int, steps ...api.Step) api.Script {
	return api.Script{Bot: bot, Sectors: sectors, Steps: steps}
}

// machineOf is what a machine reports for each of these inputs, and its View then.
func machineOf(l []api.Input) ([][]api.Out, api.View) {
	m, _ := machine.New(bot)
	return m.Run(l), m.View()
}

func sameShown(a, b api.Shown) bool {
	return machine.SameOuts(a.Outs, b.Outs) && a.Err == b.Err && a.Kept == b.Kept
}

func TestP29_1Example(t *testing.T) {
	odd := command(9, "")
	l, e := run.Run(scriptOf(8, step(odd), crash(odd, 512)))
	outs, _ := machineOf([]api.Input{odd, odd, restart()})
	want := []api.Shown{{Outs: outs[0]}, {Outs: outs[2], Kept: true}}
	if e != api.OK || !slices.EqualFunc(l, want, sameShown) || machine.Code(outs[0]) != api.ErrArg {
		t.Error(l, e)
	}
}

func TestP29_1Errors(t *testing.T) {
	for i, x := range []struct {
		s    api.Script
		want api.Errno
	}{
		{api.Script{}, api.ErrID}, {api.Script{Bot: bot}, api.ErrArg}, {scriptOf(1025), api.ErrArg}, {scriptOf(5, make([]api.Step, 301)...), api.ErrLong}, {scriptOf(5, step(restart()), step(api.Input{})), api.ErrKind}, {scriptOf(5, api.Step{Input: restart(), Cuts: []int{1}}), api.ErrArg},
	} {
		l, e := run.Run(x.s)
		y, d, f := run.Open(x.s)
		v, g := run.Last(x.s)
		if len(l) != 0 || e != x.want || y != nil || d != nil || f != x.want || !machine.SameView(v, api.View{}) || g != x.want {
			t.Errorf("%d: %v, %v, %v", i, e, f, g)
		}
	}
	if l, e := run.Run(scriptOf(5)); len(l) != 0 || e != api.OK {
		t.Error(l, e)
	}
	if v, e := run.Last(scriptOf(5)); e != api.OK || !machine.SameView(v, api.View{Bot: bot, Queue: api.Queue{Next: 1}}) {
		t.Error(v, e)
	}
}

func TestP29_1Run(t *testing.T) {
	a, b, c := command(api.CmdProtect, room), command(api.CmdProtect, other), command(api.CmdAllow, "x")
	long := record.Take(strings.Repeat("x", 700))
	outs := func(l ...api.Input) []api.Out {
		x, _ := machineOf(l)
		return x[len(x)-1]
	}
	for i, x := range []struct {
		s      api.Script
		want   []api.Shown
		inputs []api.Input
	}{
		{scriptOf(9, step(a), step(a), step(b)), []api.Shown{{Outs: outs(a)}, {Outs: outs(a, a)}, {Outs: outs(a, a, b)}}, []api.Input{a, a, b}},
		{scriptOf(9, crash(a)), []api.Shown{{}}, nil},
		{scriptOf(9, crash(a, 511)), []api.Shown{{}}, nil},
		{scriptOf(9, crash(a, 600)), []api.Shown{{Outs: outs(a, restart()), Kept: true}}, []api.Input{a, restart()}},
		{scriptOf(9, step(a), crash(b), step(c)), []api.Shown{{Outs: outs(a)}, {Outs: outs(a, restart())}, {Outs: outs(a, restart(), c)}}, []api.Input{a, restart(), c}},
		{scriptOf(9, step(a), crash(b, 512), step(b)), []api.Shown{{Outs: outs(a)}, {Outs: outs(a, b, restart()), Kept: true}, {Outs: outs(a, b, restart(), b)}}, []api.Input{a, b, restart(), b}},
		{scriptOf(9, step(a), crash(restart()), crash(restart(), 512)), []api.Shown{{Outs: outs(a)}, {Outs: outs(a, restart())}, {Outs: outs(a, restart(), restart(), restart()), Kept: true}}, []api.Input{a, restart(), restart(), restart()}},
		{scriptOf(9, step(a), crash(long, 512), crash(long, 512, 511), crash(long, 512, 512)), []api.Shown{{Outs: outs(a)}, {Outs: outs(a, restart())}, {Outs: outs(a, restart(), restart())}, {Outs: outs(a, restart(), restart(), long, restart()), Kept: true}}, []api.Input{a, restart(), restart(), long, restart()}},
		{scriptOf(2, step(long), step(a), crash(a, 512)), []api.Shown{{Outs: outs(long)}, {Err: api.ErrFull}, {Err: api.ErrFull}}, []api.Input{long}},
		{scriptOf(2, step(a), crash(b, 512), step(c)), []api.Shown{{Outs: outs(a)}, {Outs: outs(a, b, restart()), Kept: true}, {Err: api.ErrFull}}, []api.Input{a, b, restart()}},
		{scriptOf(2, step(a), crash(restart(), 512)), []api.Shown{{Outs: outs(a)}, {Outs: outs(a, restart(), restart()), Kept: true}}, []api.Input{a, restart(), restart()}},
		{scriptOf(2, step(a), crash(restart(), 511)), []api.Shown{{Outs: outs(a)}, {Outs: outs(a, restart())}}, []api.Input{a, restart()}},
		{scriptOf(1, step(long), step(a)), []api.Shown{{Err: api.ErrFull}, {Outs: outs(a)}}, []api.Input{a}},
	} {
		got, e := run.Run(x.s)
		if e != api.OK || !slices.EqualFunc(got, x.want, sameShown) {
			t.Errorf("%d: Run = %v, %v, want %v", i, got, e, x.want)
		}
		if f := run.Folded(x.s, got); !slices.Equal(f, x.inputs) {
			t.Errorf("%d: Folded = %v", i, f)
		}
		_, want := machineOf(x.inputs)
		v, e := run.Last(x.s)
		y, d, f := run.Open(x.s)
		if e != api.OK || f != api.OK || !machine.SameView(v, want) || !machine.SameView(y.View(), want) || d.Sectors() != x.s.Sectors {
			t.Errorf("%d: Last or Open: %v, %v", i, e, f)
		}
		if recs, _ := wal.Scan(d.Image()); len(recs) != y.Count() {
			t.Errorf("%d: the disk is not that of the tower", i)
		}
	}
}

func TestP29_1Folded(t *testing.T) {
	a, b := command(1, "a"), command(2, "b")
	code, note := []api.Out{{Kind: api.OutNote}, {Kind: api.OutCode, Code: api.ErrArg}}, []api.Out{{Kind: api.OutNote}}
	for i, x := range []struct {
		steps []api.Step
		l     []api.Shown
		want  []api.Input
	}{
		{nil, nil, nil}, {[]api.Step{step(a)}, nil, nil}, {nil, []api.Shown{{}}, nil}, {[]api.Step{step(a), step(b)}, []api.Shown{{}}, []api.Input{a}}, {[]api.Step{step(a)}, []api.Shown{{}, {}}, []api.Input{a}}, {[]api.Step{step(a), step(b)}, []api.Shown{{Err: api.ErrFull, Kept: true, Outs: code}, {}}, []api.Input{b}},
		{[]api.Step{step(a)}, []api.Shown{{Kept: true, Outs: code}}, []api.Input{a}}, {[]api.Step{crash(a)}, []api.Shown{{}}, nil}, {[]api.Step{crash(a)}, []api.Shown{{Kept: true}}, []api.Input{a}}, {[]api.Step{crash(a)}, []api.Shown{{Outs: code}}, []api.Input{restart()}},
		{[]api.Step{crash(a)}, []api.Shown{{Kept: true, Outs: code}}, []api.Input{a, restart()}}, {[]api.Step{crash(a)}, []api.Shown{{Kept: true, Outs: note}}, []api.Input{a}}, {[]api.Step{crash(a)}, []api.Shown{{Kept: true, Outs: code, Err: api.ErrFull}}, nil},
	} {
		if got := run.Folded(api.Script{Steps: x.steps}, x.l); !slices.Equal(got, x.want) {
			t.Errorf("%d: Folded = %v", i, got)
		}
	}
}

func TestP29_2Missing(t *testing.T) {
	b := newBoth(t, 9)
	for i, x := range []struct {
		t *tower.Tower
		h *home.Home
	}{{nil, b.h}, {b.t, nil}, {nil, nil}, {&tower.Tower{}, b.h}, {b.t, &home.Home{}}} {
		if told, e := run.Round(x.t, x.h); told != 0 || e != api.ErrNil {
			t.Errorf("%d: Round: %v", i, e)
		}
		for _, most := range []int{-1, 0, 5} {
			if n, quiet, e := run.Settle(x.t, x.h, most); n != 0 || quiet || e != api.ErrNil {
				t.Errorf("%d: Settle: %v", i, e)
			}
		}
	}
	if b.t.Count() != 0 || len(b.h.Replies()) != 0 {
		t.Error("something was done")
	}
	if run.Bound() != 68 {
		t.Error(run.Bound())
	}
}

// waiting is a world in which the bot is to ban users, and nothing was sent; the tower reports it when it is told to protect the room.
func waiting(t *testing.T, users ...string) (*both, *world) {
	t.Helper()
	b, w := newBoth(t, 1024), newWorld()
	b.happens(t, w.begin()...)
	b.happens(t, w.rule("user", "k", "@e*", ""))
	for _, u := range users {
		b.happens(t, w.join(room, u))
	}
	b.does(t, command(api.CmdSubscribe, policy))
	return b, w
}

// A round: the tick, then what was reported, the answers, the echoes.
func TestP29_2Round(t *testing.T) {
	b, _ := waiting(t, "@e1:x", "@e2:x")
	for i := range 2 {
		before := b.t.Count()
		if told, e := run.Round(b.t, b.h); told != 0 || e != api.OK || b.t.Count() != before+1 || b.t.Inputs()[before] != tick(1) {
			t.Error(i, told, e)
		}
	}
	b.does(t, command(api.CmdProtect, room))
	before := b.t.Count()
	told, e := run.Round(b.t, b.h)
	want := []api.Input{tick(1), reply(1, true), reply(2, true)}
	got := b.t.Inputs()[before:]
	if told != 0 || e != api.OK || len(got) != 5 || !slices.Equal(got[:3], want) || got[3].Kind != api.InEvent || !strings.Contains(got[3].Text, `"$h1"`) || !strings.Contains(got[4].Text, `"event_id":"$h2"`) {
		t.Error(told, e, got)
	}
	if v := b.t.View(); !slices.Equal(plan.Banned(v.Rooms[1].Resolved.State), []string{"@e1:x", "@e2:x"}) || len(v.Queue.Jobs) != 0 {
		t.Error(v.Queue)
	}
}

// What is reported in a pass is sent in the next one; as many fly as may.
func TestP29_2RoundPasses(t *testing.T) {
	var users []string
	for i := range 9 {
		users = append(users, fmt.Sprintf("@e%d:x", i))
	}
	b, _ := waiting(t, users...)
	outs, _ := b.t.Do(command(api.CmdProtect, room))
	if len(machine.Emits(outs)) != 4 {
		t.Fatal(outs)
	}
	// They are lost on their way; a restart reports them again, and the round sends what is reported in it.
	if told, e := run.Round(b.t, b.h); told != 0 || e != api.OK || len(b.h.Done()) != 0 {
		t.Error(told, e)
	}
	b.does(t, restart())
	before := b.t.Count()
	told, e := run.Round(b.t, b.h)
	if told != 5 || e != api.OK || !slices.Equal(b.h.Done(), []int64{1, 2, 3, 4, 5, 6, 7, 8, 9}) {
		t.Error(told, e, b.h.Done())
	}
	var kinds []int
	for _, in := range b.t.Inputs()[before:] {
		kinds = append(kinds, in.Kind)
	}
	r, v := api.InReply, api.InEvent
	if !slices.Equal(kinds, []int{api.InTick, r, r, r, r, v, v, v, v, r, r, r, r, v, v, v, v, r, v}) {
		t.Error(kinds)
	}
}

// The home has no room for more answers: what is refused is sent in the next pass.
func TestP29_2RoundFull(t *testing.T) {
	b, _ := waiting(t, "@e1:x", "@e2:x", "@e3:x")
	b.t.Do(command(api.CmdProtect, room))
	for txn := int64(1); txn <= 3; txn++ {
		b.t.Do(reply(txn, false))
	}
	b.t.Do(tick(1))
	for i := range 7 {
		b.h.Send(int64(100+i), api.Action{})
	}
	before := b.t.Count()
	told, e := run.Round(b.t, b.h)
	if told != 3 || e != api.OK || !slices.Equal(b.h.Done(), []int64{1, 2, 3}) {
		t.Error(told, e, b.h.Done())
	}
	l := b.t.Inputs()[before:]
	var txns []int64
	for _, in := range l {
		if in.Kind == api.InReply {
			txns = append(txns, in.N)
		}
	}
	if !slices.Equal(txns, []int64{100, 101, 102, 103, 104, 105, 106, 1, 2, 3}) || l[9].Kind != api.InEvent || l[10] != reply(2, true) {
		t.Error(txns, l)
	}
}

// An action that the home does not take at all counts as sent.
func TestP29_2RoundOtherErrors(t *testing.T) {
	b, _ := waiting(t, "@e1:x")
	elsewhere, _ := home.New(bot)
	b.t.Do(command(api.CmdProtect, room))
	b.t.Do(reply(1, false))
	b.t.Do(tick(1))
	elsewhere.Refuse(1)
	if told, e := run.Round(b.t, elsewhere); told != 1 || e != api.OK || len(elsewhere.Done()) != 0 {
		t.Error(told, e)
	}
	if q := b.t.View().Queue; q.Jobs[0].Tries != 2 {
		t.Error(q)
	}
}

func TestP29_2RoundErrors(t *testing.T) {
	b, _ := waiting(t, "@e1:x", "@e2:x")
	b.t.Do(command(api.CmdProtect, room))
	b.t.Do(reply(1, false))
	b.t.Do(reply(2, false))
	b.t.Do(tick(1))
	for b.t.Left() > 2 {
		b.t.Do(tick(0))
	}
	told, e := run.Round(b.t, b.h)
	if told != 2 || e != api.ErrFull || b.t.Left() != 0 || !slices.Equal(b.h.Done(), []int64{1, 2}) || b.t.View().Queue.Jobs[0].Txn != 2 {
		t.Error(told, e, b.t.Left(), b.h.Done())
	}
	count := b.t.Count()
	if told, e := run.Round(b.t, b.h); told != 0 || e != api.ErrFull || b.t.Count() != count {
		t.Error(told, e)
	}
	if n, quiet, e := run.Settle(b.t, b.h, 5); n != 1 || quiet || e != api.ErrFull {
		t.Error(n, quiet, e)
	}
	d := newBoth(t, 9)
	d.t.Do(restart())
	d.t.Crash(restart(), nil)
	if told, e := run.Round(d.t, d.h); told != 0 || e != api.ErrState {
		t.Error(told, e)
	}
	if n, _, e := run.Settle(d.t, d.h, 5); n != 1 || e != api.ErrState {
		t.Error(n, e)
	}
	if n, _, e := run.Settle(d.t, d.h, 0); n != 0 || e != api.OK {
		t.Error(n, e)
	}
}

// After an error nothing more is sent or taken, though there would be room for it.
func TestP29_2RoundStops(t *testing.T) {
	b, w := newBoth(t, 1024), newWorld()
	b.happens(t, w.begin()...)
	for i := range 5 {
		b.happens(t, w.join(other, fmt.Sprintf("@e%d:x", i)))
	}
	b.happens(t, w.rule("user", "k", "@e*", ""))
	for i := range 3 {
		b.happens(t, w.rule("server", fmt.Sprint(i), strings.Repeat(fmt.Sprint(i), 200), ""))
	}
	for _, in := range commands()[:3] {
		b.t.Do(in)
	}
	for txn := int64(1); txn <= 7; txn++ {
		if outs, e := b.t.Do(reply(txn, false)); e != api.OK || machine.Code(outs) != api.OK {
			t.Fatal(txn, outs, e)
		}
	}
	b.t.Do(tick(1))
	for b.t.Left() > 6 {
		b.t.Do(tick(0))
	}
	told, e := run.Round(b.t, b.h)
	if told != 7 || e != api.ErrFull || b.t.Left() != 1 || !slices.Equal(b.h.Done(), []int64{1, 2, 3, 4}) {
		t.Error(told, e, b.t.Left(), b.h.Done())
	}
}

func TestP29_2Settle(t *testing.T) {
	b, _ := waiting(t, "@e1:x", "@e2:x")
	for _, most := range []int{0, -1, math.MinInt} {
		if n, quiet, e := run.Settle(b.t, b.h, most); n != 0 || quiet || e != api.OK {
			t.Error(n, quiet, e)
		}
	}
	if n, quiet, e := run.Settle(b.t, b.h, math.MaxInt); n != 1 || !quiet || e != api.OK {
		t.Error("it is quiet at once", n, quiet, e)
	}
	b.h.Refuse(3)
	b.does(t, command(api.CmdProtect, room))
	if n, quiet, e := run.Settle(b.t, b.h, 1); n != 1 || quiet || e != api.OK {
		t.Error("jobs are left", n, quiet, e)
	}
	n, quiet, e := run.Settle(b.t, b.h, run.Bound())
	if !quiet || e != api.OK || n < 3 || n > 8 || !slices.Equal(b.h.Done(), []int64{1, 2}) {
		t.Error(n, quiet, e)
	}
	if v := b.t.View(); len(v.Queue.Jobs) != 0 || audit.Life(v.Notes) != -1 {
		t.Error(v.Queue)
	}
}

// wants is what is left to do that may be done in the protected rooms of a view.
func wants(v api.View) []api.Action {
	var l []api.Action
	for _, x := range v.Rooms {
		if slices.Contains(v.Protected, x.ID) {
			l = append(l, plan.Wants(x.ID, x.Target, x.Resolved, x.Own, bot)...)
		}
	}
	return l
}

// What a run shows is what a machine reports; crashes keep what was synced, and the audit log continues.
func TestP29_3Scripts(t *testing.T) {
	r := rand.New(rand.NewSource(39))
	crashes, kept := 0, 0
	for range 15 {
		w := newWorld()
		var inputs []api.Input
		for _, e := range append(w.begin(), w.history(r, 25)...) {
			inputs = append(inputs, arrives(e))
			if r.Intn(3) == 0 {
				inputs = append(inputs, []api.Input{reply(r.Int63n(5), r.Intn(2) == 0), tick(r.Int63n(9)), command(1+r.Intn(8), []string{room, policy, eve}[r.Intn(3)]), record.Take(strings.Repeat("x", 5000))}[r.Intn(4)])
			}
		}
		inputs = slices.Concat(commands(), inputs)
		s := scriptOf([]int{1024, 60}[r.Intn(2)])
		for _, in := range inputs {
			if r.Intn(6) > 0 {
				s.Steps = append(s.Steps, step(in))
				continue
			}
			s.Steps = append(s.Steps, crash(in, []int{0, 511, 512, 512, 600}[:r.Intn(6)]...))
			if r.Intn(2) == 0 {
				s.Steps[len(s.Steps)-1].Cuts = []int{512, 512, 512}
			}
		}
		l, e := run.Run(s)
		if e != api.OK || len(l) != len(s.Steps) {
			t.Fatal(e)
		}
		checkShown(t, s, l)
		for i, x := range l {
			if s.Steps[i].Crash && x.Err == api.OK {
				crashes++
				if x.Kept {
					kept++
				}
			}
			if i%9 == 0 {
				part := s
				part.Steps = s.Steps[:i]
				checkLast(t, part, l[:i])
			}
		}
		checkLast(t, s, l)
		again, _ := run.Run(s)
		if !slices.EqualFunc(l, again, sameShown) {
			t.Fatal("a script has two results")
		}
	}
	if crashes < 40 || kept < 15 {
		t.Error(crashes, kept)
	}
}

func checkShown(t *testing.T, s api.Script, l []api.Shown) {
	t.Helper()
	outs, v := machineOf(run.Folded(s, l))
	at := 0
	for i, x := range l {
		if x.Err != api.OK {
			continue
		}
		if s.Steps[i].Crash && x.Kept {
			at++
		}
		if s.Steps[i].Crash && len(x.Outs) == 0 {
			continue
		}
		if !machine.SameOuts(x.Outs, outs[at]) {
			t.Fatal("what is shown is not what a machine reports", i)
		}
		at++
	}
	if at != len(outs) || audit.Life(v.Notes) != -1 {
		t.Fatal("the inputs of the machine")
	}
}

func checkLast(t *testing.T, s api.Script, l []api.Shown) {
	t.Helper()
	v, e := run.Last(s)
	_, want := machineOf(run.Folded(s, l))
	if e != api.OK || !machine.SameView(v, want) {
		t.Fatal("the last view is not that of a machine")
	}
}

// If nothing new comes, everything that may be done is done after the rounds of the bound, a resync, and these rounds again.
func TestP29_3Settled(t *testing.T) {
	r := rand.New(rand.NewSource(40))
	done := 0
	for range 20 {
		b, w := newBoth(t, 1024), newWorld()
		for _, in := range commands() {
			b.does(t, in)
		}
		b.happens(t, w.begin()...)
		for _, e := range w.history(r, 20) {
			if b.h.Put(e) != api.OK {
				t.Fatal("the home has no room")
			}
			told, _ := b.t.Do(arrives(e))
			switch r.Intn(4) {
			case 0:
				// What is reported is lost, until a restart.
			case 1:
				b.send(told)
				b.h.Replies()
			default:
				b.send(told)
				if _, _, e := run.Settle(b.t, b.h, r.Intn(2)); e != api.OK {
					t.Fatal(e)
				}
			}
		}
		b.h.Refuse(r.Intn(3))
		b.does(t, restart())
		for range 2 {
			n, _, e := run.Settle(b.t, b.h, run.Bound())
			if e != api.OK {
				t.Fatal(n, e)
			}
			b.does(t, command(api.CmdResync, ""))
		}
		n, quiet, e := run.Settle(b.t, b.h, run.Bound())
		v := b.t.View()
		if left := wants(v); e != api.OK || len(left) > 0 || n > run.Bound() || !quiet && mayBeDone(v) {
			t.Fatal("something is left to do", n, quiet, e, left)
		}
		for _, x := range v.Rooms {
			if x.ID != room {
				continue
			}
			for _, banned := range x.Target.Bans {
				if !slices.Contains(plan.Banned(x.Resolved.State), banned.User) {
					t.Fatal("one of the target is not banned", banned)
				}
			}
		}
		checkSeen(t, b, v)
		done += len(b.h.Done())
	}
	if done < 50 {
		t.Error(done)
	}
}

// mayBeDone reports whether there is a job that is not one in doubt that the bot may not do.
func mayBeDone(v api.View) bool {
	for _, j := range v.Queue.Jobs {
		at := slices.IndexFunc(v.Rooms, func(x api.RoomView) bool { return x.ID == j.Action.Room })
		if !j.Doubt || j.Flying || plan.Permitted(v.Rooms[at].Resolved, bot, j.Action) {
			return true
		}
	}
	return false
}

// checkSeen says that each transaction was done once, by its action in the log, and that the log is valid.
func checkSeen(t *testing.T, b *both, v api.View) {
	t.Helper()
	if audit.Life(v.Notes) != -1 {
		t.Fatal("the audit log is not valid")
	}
	for _, txn := range b.h.Done() {
		a, _ := b.h.Action(txn)
		if l := audit.Of(v.Notes, txn); len(l) == 0 || l[0].Action != a {
			t.Fatal("a transaction without its note", txn)
		}
	}
}

// A crash after an action was sent: it is sent again with its number, and is there once.
func TestP29_3CrashAfterSending(t *testing.T) {
	b, _ := waiting(t, "@e1:x", "@e2:x")
	b.does(t, command(api.CmdProtect, room))
	notes := b.t.View().Notes
	for _, cuts := range [][]int{nil, {512}} {
		if e := b.t.Crash(tick(1), cuts); e != api.OK {
			t.Fatal(e)
		}
		x, told, e := tower.Open(bot, b.d)
		if e != api.OK || len(machine.Emits(told)) != 2 || machine.Emits(told)[0].Txn != 1 || machine.Emits(told)[1].Txn != 2 {
			t.Fatal(told, e)
		}
		b.t = x
		b.send(told)
		if v := x.View(); !slices.Equal(v.Notes[:len(notes)], notes) {
			t.Error("the audit log continues where it was")
		}
	}
	n, quiet, e := run.Settle(b.t, b.h, run.Bound())
	if !quiet || e != api.OK || !slices.Equal(b.h.Done(), []int64{1, 2}) || len(wants(b.t.View())) != 0 {
		t.Error(n, quiet, e, b.h.Done())
	}
	if got := b.h.Events(room); len(got) != len(slices.CompactFunc(got, func(a, b api.Event) bool { return a.ID == b.ID })) {
		t.Error(got)
	}
	checkSeen(t, b, b.t.View())
}

// If a rule is removed, exactly the bot's own bans are lifted.
func TestP29_3Lifted(t *testing.T) {
	b, w := waiting(t, "@e1:x", "@e2:x", "@e3:x")
	b.happens(t, w.member(room, bot, "@e3:x", api.MemberBan))
	b.does(t, command(api.CmdProtect, room))
	run.Settle(b.t, b.h, run.Bound())
	b.happens(t, w.rule("user", "l", "@e2:*", ""), w.rule("user", "k", "", ""))
	if _, quiet, _ := run.Settle(b.t, b.h, run.Bound()); !quiet {
		t.Error("not quiet")
	}
	x := b.t.View().Rooms[1]
	if got := plan.Banned(x.Resolved.State); !slices.Equal(got, []string{"@e2:x", "@e3:x"}) || !slices.Equal(x.Own, []string{"@e2:x"}) {
		t.Error(got, x.Own)
	}
}

func TestP29_1DiskOfOpen(t *testing.T) {
	_, d, e := run.Open(scriptOf(7, step(command(api.CmdProtect, room)), crash(command(api.CmdProtect, other), 512)))
	if e != api.OK {
		t.Fatal(e)
	}
	again, _ := disk.Of(d.Image())
	x, told, e := tower.Open(bot, again)
	if e != api.OK || x.Count() != 4 || len(told) == 0 || d.Pending() != 0 || d.Sectors() != 7 {
		t.Error(x.Count(), told, e)
	}
}
