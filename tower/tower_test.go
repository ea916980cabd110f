package tower_test

import (
	"fmt"
	"math/rand"
	"slices"
	"strconv"
	"strings"
	"testing"

	"outlaw/api"
	"outlaw/content"
	"outlaw/disk"
	"outlaw/event"
	"outlaw/machine"
	"outlaw/record"
	"outlaw/tower"
	"outlaw/wal"
)

const (
	bot    = "@bot:home.org"
	room   = "!r:home.org"
	policy = "!p:policy.org"
	mod    = "@mod:policy.org"
)

func newDisk(t *testing.T, sectors int) *disk.Disk {
	t.Helper()
	d, e := disk.New(sectors)
	if e != api.OK {
		t.Fatal(e)
	}
	return d
}

func open(t *testing.T, d *disk.Disk) (*tower.Tower, []api.Out) {
	t.Helper()
	x, told, e := tower.Open(bot, d)
	if e != api.OK || x == nil {
		t.Fatal(e)
	}
	return x, told
}

func restart() api.Input { return api.Input{Kind: api.InRestart} }

func protect(i int) api.Input {
	return record.Command(api.CmdProtect, "!"+strconv.Itoa(i)+":x")
}

// wide is an input whose record takes so many sectors.
func wide(sectors int) api.Input { return record.Take(strings.Repeat("x", sectors*493-2)) }

// machineOf is a machine that did these inputs, and what it reported for the last one.
func machineOf(l []api.Input) (*machine.Machine, []api.Out) {
	m, _ := machine.New(bot)
	var outs []api.Out
	for _, in := range l {
		outs = m.Do(in)
	}
	return m, outs
}

// inputs are some that make the bot queue and send something.
func inputs() []api.Input {
	last := map[string]string{}
	n := 0
	state := func(room, sender, typ, key string, body api.Json) api.Input {
		n++
		e := api.Event{ID: "$" + strconv.Itoa(n), Room: room, Sender: sender, Type: typ, State: true, Key: key, TS: int64(n), Body: body}
		if last[room] != "" {
			e.Prev = []string{last[room]}
		}
		last[room] = e.ID
		s, _ := event.Bytes(e)
		return record.Take(s)
	}
	var l []api.Input
	own, _ := content.CreateBody(bot)
	create, _ := content.CreateBody(mod)
	join, _ := content.MemberBody(api.MemberJoin)
	rule, _ := content.RuleBody(api.RuleBody{Entity: "@e*", Recommendation: "m.ban", Reason: strings.Repeat("long ", 50)})
	l = append(l, state(room, bot, api.TypeCreate, "", own), state(room, bot, api.TypeMember, bot, join), state(policy, mod, api.TypeCreate, "", create), state(policy, mod, api.TypeMember, mod, join), record.Command(api.CmdProtect, room), record.Command(api.CmdSubscribe, policy),
		state(policy, mod, "m.policy.rule.user", "k", rule), state(room, "@e1:x", api.TypeMember, "@e1:x", join), state(room, "@e2:x", api.TypeMember, "@e2:x", join), record.Command(99, "odd"), api.Input{Kind: api.InReply, N: 1, OK: true}, api.Input{Kind: api.InTick, N: 3},
		wide(3), api.Input{Kind: api.InReply, N: 2}, api.Input{Kind: api.InTick, N: 2}, record.Take(strings.Repeat("x", 9999)), restart())
	return l
}

func sameInputs(a, b []api.Input) bool { return slices.Equal(a, b) }

func TestP27_1OpenErrors(t *testing.T) {
	for i, x := range []struct {
		bot  string
		d    *disk.Disk
		want api.Errno
	}{{"bot", newDisk(t, 3), api.ErrID}, {"", nil, api.ErrID}, {bot, nil, api.ErrNil}, {bot, &disk.Disk{}, api.ErrNil}} {
		if y, told, e := tower.Open(x.bot, x.d); y != nil || len(told) != 0 || e != x.want {
			t.Errorf("%d: %v", i, e)
		}
	}
}

func TestP27_1Invalid(t *testing.T) {
	for i, x := range []*tower.Tower{nil, {}} {
		outs, e := x.Do(restart())
		_, f := x.Do(api.Input{})
		if len(outs) != 0 || e != api.ErrNil || f != api.ErrNil || x.Crash(restart(), nil) != api.ErrNil || x.Crash(api.Input{}, nil) != api.ErrNil || x.Down() || x.Full() || x.Count() != 0 || len(x.Inputs()) != 0 || x.Left() != 0 || !machine.SameView(x.View(), api.View{}) {
			t.Errorf("%d: a tower that Open did not return does something", i)
		}
	}
}

func TestP27_1OpenEmpty(t *testing.T) {
	d := newDisk(t, 5)
	d.Write(2, []byte("dirt"))
	x, told := open(t, d)
	if len(told) != 0 || x.Count() != 0 || x.Left() != 5 || x.Down() || x.Full() || !machine.SameView(x.View(), api.View{Bot: bot, Queue: api.Queue{Next: 1}}) || d.Pending() != 0 {
		t.Error("a tower on an empty disk")
	}
	x, told = open(t, d)
	if len(told) != 0 || x.Count() != 0 {
		t.Error("without a record there is no restart")
	}
}

func TestP27_1Do(t *testing.T) {
	d := newDisk(t, 100)
	x, _ := open(t, d)
	var done []api.Input
	var recs []string
	for _, in := range inputs() {
		done = append(done, in)
		m, want := machineOf(done)
		got, e := x.Do(in)
		if e != api.OK || !machine.SameOuts(got, want) {
			t.Fatalf("%s: %v, %v, want %v", record.Line(in), got, e, want)
		}
		rec, _ := record.Bytes(in)
		recs = append(recs, rec)
		found, end := wal.Scan(d.Durable())
		if !slices.Equal(found, recs) || d.Pending() != 0 || x.Left() != 100-end || x.Count() != len(done) || !sameInputs(x.Inputs(), done) || x.Full() || x.Down() {
			t.Fatal("the log after", record.Line(in))
		}
		if !machine.SameView(x.View(), m.View()) {
			t.Fatal("the view after", record.Line(in))
		}
	}
	if len(x.View().Notes) < 8 || x.View().Queue.Next < 3 {
		t.Error("these inputs must do something")
	}
	x.Inputs()[0] = restart()
	if !sameInputs(x.Inputs(), done) {
		t.Error("Inputs shares memory")
	}
}

func TestP27_1DoRefuses(t *testing.T) {
	d := newDisk(t, 100)
	x, _ := open(t, d)
	x.Do(protect(1))
	before := fmt.Sprint(d.Image(), x.View(), x.Inputs(), x.Left())
	for i, y := range []struct {
		in   api.Input
		want api.Errno
	}{
		{api.Input{}, api.ErrKind}, {api.Input{Kind: api.InTick, N: -1}, api.ErrArg}, {record.Command(1, strings.Repeat("x", 301)), api.ErrLong}, {api.Input{Kind: api.InEvent, Text: strings.Repeat("x", 4097)}, api.ErrLong}, {record.Command(256, ""), api.ErrArg},
	} {
		if outs, e := x.Do(y.in); len(outs) != 0 || e != y.want {
			t.Errorf("%d: %v, %v", i, outs, e)
		}
		if e := x.Crash(y.in, nil); e != y.want || x.Down() {
			t.Errorf("%d: Crash: %v", i, e)
		}
		if fmt.Sprint(d.Image(), x.View(), x.Inputs(), x.Left()) != before || d.Pending() != 0 {
			t.Errorf("%d: an input that has no record does something", i)
		}
	}
}

func TestP27_1Full(t *testing.T) {
	d := newDisk(t, 4)
	x, _ := open(t, d)
	do := func(in api.Input, want api.Errno, full bool, left int) {
		t.Helper()
		before := fmt.Sprint(d.Image(), x.View(), x.Inputs())
		outs, e := x.Do(in)
		if e != want || x.Full() != full || x.Left() != left || (len(outs) == 0) != (e != api.OK) {
			t.Errorf("%v, full %v, left %d", e, x.Full(), x.Left())
		}
		if e != api.OK && fmt.Sprint(d.Image(), x.View(), x.Inputs()) != before {
			t.Error("an input that has no room does something")
		}
	}
	do(wide(5), api.ErrFull, true, 4)
	do(wide(2), api.OK, false, 2)
	do(wide(3), api.ErrFull, true, 2)
	do(api.Input{}, api.ErrKind, true, 2)
	if e := x.Crash(wide(3), nil); e != api.ErrFull || x.Down() || !x.Full() || d.Pending() != 0 {
		t.Error(e, x.Down(), x.Full())
	}
	do(protect(1), api.OK, false, 1)
	if e := x.Crash(wide(2), nil); e != api.ErrFull || x.Down() || x.Full() || x.Count() != 2 {
		t.Error(e, x.Down(), x.Full())
	}
	do(protect(2), api.OK, false, 0)
	do(protect(3), api.ErrFull, true, 0)
	if e := x.Crash(restart(), []int{512}); e != api.ErrFull || x.Down() {
		t.Error(e)
	}
	y, told := open(t, d)
	m, want := machineOf([]api.Input{wide(2), protect(1), protect(2), restart()})
	if !machine.SameOuts(told, want) || !y.Full() || y.Count() != 3 || y.Left() != 0 || !sameInputs(y.Inputs(), []api.Input{wide(2), protect(1), protect(2)}) || !machine.SameView(y.View(), m.View()) {
		t.Error("a restart without room for it", told, y.Full(), y.Count())
	}
}

func TestP27_1Crash(t *testing.T) {
	d := newDisk(t, 20)
	x, _ := open(t, d)
	x.Do(protect(1))
	view := x.View()
	if e := x.Crash(wide(3), []int{512, 511}); e != api.OK || !x.Down() || x.Full() || x.Count() != 1 || x.Left() != 16 || !machine.SameView(x.View(), view) || !sameInputs(x.Inputs(), []api.Input{protect(1)}) || d.Pending() != 0 {
		t.Error(e, x.Down(), x.Count(), x.Left())
	}
	image := fmt.Sprint(d.Image())
	outs, e := x.Do(protect(2))
	_, f := x.Do(api.Input{})
	if len(outs) != 0 || e != api.ErrState || f != api.ErrState || x.Crash(protect(2), nil) != api.ErrState || x.Crash(api.Input{}, nil) != api.ErrState || fmt.Sprint(d.Image()) != image {
		t.Error("a tower that is down does something")
	}
	y, told := open(t, d)
	_, want := machineOf([]api.Input{protect(1), restart()})
	if !sameInputs(y.Inputs(), []api.Input{protect(1), restart()}) || !machine.SameOuts(told, want) || y.Left() != 18 || y.Down() {
		t.Error(y.Inputs(), told)
	}
	if e := y.Crash(protect(2), []int{512}); e != api.OK {
		t.Error(e)
	}
	z, told := open(t, d)
	_, want = machineOf([]api.Input{protect(1), restart(), protect(2), restart()})
	if !sameInputs(z.Inputs(), []api.Input{protect(1), restart(), protect(2), restart()}) || !machine.SameOuts(told, want) || z.Count() != 4 {
		t.Error(z.Inputs(), told)
	}
}

func image(sectors int, recs ...string) []byte {
	b := make([]byte, sectors*512)
	at := 0
	for _, rec := range recs {
		for _, s := range wal.Frame(at, rec) {
			copy(b[at*512:], s)
			at++
		}
	}
	return b
}

// A record that cannot be read, and all after it, are ignored.
func TestP27_1Unreadable(t *testing.T) {
	first, _ := record.Bytes(protect(1))
	second, _ := record.Bytes(protect(2))
	for _, bad := range []string{"", "\xff", "\x06x", "\x04", "\x02\x00\x00\x00\x00\x00\x00\x00\x01"} {
		b := image(8, first, bad, second)
		v, n, e := tower.Recover(bot, b)
		m, _ := machineOf([]api.Input{protect(1)})
		if e != api.OK || n != 1 || !machine.SameView(v, m.View()) {
			t.Errorf("Recover: %d, %v", n, e)
		}
		d, _ := disk.Of(b)
		x, told := open(t, d)
		m, want := machineOf([]api.Input{protect(1), restart()})
		if !sameInputs(x.Inputs(), []api.Input{protect(1), restart()}) || !machine.SameOuts(told, want) || !machine.SameView(x.View(), m.View()) || x.Left() != 4 {
			t.Errorf("%q: %v", bad, x.Inputs())
		}
	}
}

func TestP27_2Recover(t *testing.T) {
	for _, who := range []string{"", "bot"} {
		if v, n, e := tower.Recover(who, nil); !machine.SameView(v, api.View{}) || n != 0 || e != api.ErrID {
			t.Error(n, e)
		}
	}
	if v, n, e := tower.Recover(bot, nil); !machine.SameView(v, api.View{Bot: bot, Queue: api.Queue{Next: 1}}) || n != 0 || e != api.OK {
		t.Error(n, e)
	}
	d := newDisk(t, 100)
	x, _ := open(t, d)
	for i, in := range inputs() {
		x.Do(in)
		before := d.Image()
		v, n, e := tower.Recover(bot, before)
		if n != i+1 || e != api.OK || !machine.SameView(v, x.View()) || fmt.Sprint(before) != fmt.Sprint(d.Image()) {
			t.Errorf("Recover after %d inputs: %d, %v", i+1, n, e)
		}
		if v, n, _ := tower.Recover(bot, before[:len(before)-1]); n != i+1 || !machine.SameView(v, x.View()) {
			t.Error("bytes after the last sector are ignored")
		}
	}
}

// Whatever a crash leaves, the tower has what was taken, possibly the input of the crash, and its restart; what it reports is what a machine does.
func TestP27_3Crashes(t *testing.T) {
	r := rand.New(rand.NewSource(37))
	kept, lost, filled := 0, 0, 0
	for range 60 {
		d := newDisk(t, 12+r.Intn(40))
		x, _ := open(t, d)
		var taken []api.Input
		for _, in := range slices.Concat(inputs(), inputs()) {
			if r.Intn(4) > 0 {
				told, e := x.Do(in)
				if e == api.OK {
					taken = append(taken, in)
					if _, want := machineOf(taken); !machine.SameOuts(told, want) {
						t.Fatal("what the tower reports for", record.Line(in))
					}
				} else if e != api.ErrFull || !x.Full() {
					t.Fatal(e)
				}
				continue
			}
			var cuts []int
			for range r.Intn(12) {
				cuts = append(cuts, []int{0, 9, 300, 511, 512, 512, 512, 600}[r.Intn(8)])
			}
			if e := x.Crash(in, cuts); e != api.OK {
				if e != api.ErrFull {
					t.Fatal(e)
				}
				continue
			}
			y, told := open(t, d)
			got := y.Inputs()
			more := len(got) - len(taken)
			if len(told) > 0 && !y.Full() {
				more--
			}
			if more > 0 {
				taken = append(taken, in)
				kept++
			} else {
				lost++
			}
			if len(taken) > 0 {
				m, want := machineOf(append(slices.Clone(taken), restart()))
				if !machine.SameOuts(told, want) || !machine.SameView(m.View(), y.View()) {
					t.Fatal("what the tower reports for its restart")
				}
				if y.Full() {
					filled++
				} else {
					taken = append(taken, restart())
				}
			}
			if !sameInputs(got, taken) || y.Count() != len(taken) {
				t.Fatalf("the inputs after a crash: %d, want %d", len(got), len(taken))
			}
			x = y
			if y.Full() {
				break
			}
		}
	}
	if kept < 50 || lost < 50 {
		t.Error(kept, lost, filled)
	}
}
