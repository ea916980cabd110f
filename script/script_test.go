package script_test

import (
	"encoding/hex"
	"math"
	"math/rand"
	"slices"
	"strings"
	"testing"

	"outlaw/api"
	"outlaw/record"
	"outlaw/script"
)

const bot = "@b:x"

func restart() api.Input { return api.Input{Kind: api.InRestart} }

func steps(l ...api.Step) api.Script { return api.Script{Bot: bot, Sectors: 8, Steps: l} }

func TestP25_1Check(t *testing.T) {
	bad := api.Step{Input: api.Input{Kind: 9}}
	good := api.Step{Input: restart()}
	crash := func(cuts ...int) api.Step { return api.Step{Crash: true, Input: restart(), Cuts: cuts} }
	many := make([]api.Step, 301)
	for i := range many {
		many[i] = good
	}
	for i, x := range []struct {
		s    api.Script
		at   int
		want api.Errno
	}{
		{steps(), 0, 0}, {steps(good, crash(), crash(0, 600)), 0, 0}, {api.Script{Bot: bot, Sectors: 1}, 0, 0}, {api.Script{Bot: bot, Sectors: 1024}, 0, 0}, {api.Script{Bot: bot}, 0, api.ErrArg}, {api.Script{Bot: bot, Sectors: 1025}, 0, api.ErrArg}, {api.Script{Bot: bot, Sectors: -1}, 0, api.ErrArg},
		{api.Script{Bot: bot, Sectors: math.MaxInt}, 0, api.ErrArg}, {api.Script{}, 0, api.ErrID}, {api.Script{Bot: "b", Sectors: 0}, 0, api.ErrID}, {api.Script{Bot: "!b:x", Sectors: 8}, 0, api.ErrID}, {steps(many[:300]...), 0, 0}, {steps(many...), 0, api.ErrLong}, {api.Script{Bot: bot, Steps: many}, 0, api.ErrArg},
		{steps(append(slices.Clone(many), bad)...), 0, api.ErrLong}, {steps(bad), 0, api.ErrKind}, {steps(good, good, bad), 2, api.ErrKind}, {steps(good, api.Step{Input: api.Input{Kind: api.InTick, N: -1}}, bad), 1, api.ErrArg}, {steps(good, api.Step{Input: record.Command(1, strings.Repeat("x", 301))}), 1, api.ErrLong},
		{steps(good, api.Step{Input: restart(), Cuts: []int{0}}), 1, api.ErrArg}, {steps(api.Step{Input: restart(), Cuts: make([]int, 17)}), 0, api.ErrArg}, {steps(good, crash(make([]int, 16)...)), 0, 0}, {steps(good, crash(make([]int, 17)...)), 1, api.ErrLong}, {steps(good, crash(append(make([]int, 16), 601)...)), 1, api.ErrLong},
		{steps(crash(601)), 0, api.ErrArg}, {steps(good, crash(5, -1)), 1, api.ErrArg}, {steps(good, crash(math.MaxInt)), 1, api.ErrArg}, {steps(api.Step{Crash: true, Input: api.Input{Kind: 9}, Cuts: make([]int, 17)}), 0, api.ErrKind},
	} {
		if at, e := script.Check(x.s); at != x.at || e != x.want {
			t.Errorf("%d: Check = %d, %v, want %d, %v", i, at, e, x.at, x.want)
		}
		s, e := script.Bytes(x.s)
		if e != x.want || (s == "") != (e != api.OK) {
			t.Errorf("%d: Bytes: %v", i, e)
		}
	}
}

func TestP25_1Bytes(t *testing.T) {
	for want, s := range map[string]api.Script{
		"0440623a78" + "0008" + "0001" + "00" + "0001" + "06":                                      steps(api.Step{Input: restart()}),
		"0440623a78" + "0008" + "0000":                                                             steps(),
		"0440623a78" + "0400" + "0000":                                                             {Bot: bot, Sectors: 1024},
		"0440623a78" + "0008" + "0002" + "01" + "0001" + "06" + "00" + "00" + "0003" + "050161":    steps(api.Step{Crash: true, Input: restart()}, api.Step{Input: record.Command(1, "a")}),
		"0440623a78" + "0008" + "0001" + "01" + "000a" + "03000000000000010201" + "03000002580101": steps(api.Step{Crash: true, Input: api.Input{Kind: api.InReply, N: 258, OK: true}, Cuts: []int{0, 600, 257}}),
	} {
		b, e := script.Bytes(s)
		if hex.EncodeToString([]byte(b)) != want || e != api.OK {
			t.Errorf("Bytes = %x, %v, want %s", b, e, want)
		}
		if back, e := script.Read(b); e != api.OK || !script.Same(back, s) {
			t.Errorf("Read(%s) = %v, %v", want, back, e)
		}
	}
	long := api.Script{Bot: "@" + strings.Repeat("a", 125) + ":" + strings.Repeat("s", 128), Sectors: 1, Steps: []api.Step{{Input: record.Take(strings.Repeat("x", 4096))}}}
	b, e := script.Bytes(long)
	if e != api.OK || b[0] != 255 || len(b) != 1+255+4+3+4097 || b[261:263] != "\x10\x01" {
		t.Error(len(b), e)
	}
}

func TestP25_2Read(t *testing.T) {
	head := "\x04@b:x\x00\x08"
	step := "\x00\x00\x01\x06"
	for i, x := range []struct {
		b    string
		want api.Errno
	}{
		{"", api.ErrShort}, {"\x04", api.ErrShort}, {"\x04@b:", api.ErrShort}, {"\x04@b:x", api.ErrShort}, {"\x04@b:x\x00", api.ErrShort}, {head, api.ErrShort}, {head + "\x00", api.ErrShort}, {head + "\x00\x00", 0}, {head + "\x00\x00x", api.ErrBad}, {head + "\x00\x01", api.ErrShort}, {head + "\x00\x01" + step, 0},
		{head + "\x00\x01" + step + step, api.ErrBad}, {head + "\x00\x02" + step, api.ErrShort}, {head + "\x00\x01\x02", api.ErrBad}, {head + "\x00\x01\xff", api.ErrBad}, {head + "\x00\x01\x00", api.ErrShort}, {head + "\x00\x01\x00\x00", api.ErrShort}, {head + "\x00\x01\x00\x00\x01", api.ErrShort}, {head + "\x00\x01\x00\x00\x02\x06", api.ErrShort},
		{head + "\x00\x01\x00\x00\x00", api.ErrShort}, {head + "\x00\x01\x00\x00\x01\x07", api.ErrKind}, {head + "\x00\x01\x00\x00\x02\x06x", api.ErrBad}, {head + "\x00\x01\x00\x00\x01\x04", api.ErrShort}, {head + "\x00\x01\x00\x00\x01\x07x", api.ErrKind}, {head + "\x00\x02\x00\x00\x01\x07\x02", api.ErrKind}, {head + "\x00\x02" + step + "\x02", api.ErrBad},
		{head + "\x00\x01\x01\x00\x01\x06", api.ErrShort}, {head + "\x00\x01\x01\x00\x01\x06\x00", 0}, {head + "\x00\x01\x01\x00\x01\x06\x01", api.ErrShort}, {head + "\x00\x01\x01\x00\x01\x06\x01\x00", api.ErrShort}, {head + "\x00\x01\x01\x00\x01\x06\x01\x02\x58", 0}, {head + "\x00\x01\x01\x00\x01\x06\x01\x02\x59", api.ErrArg}, {head + "\x00\x01\x01\x00\x01\x06\x01\x02\x59x", api.ErrBad},
		{head + "\x00\x01\x01\x00\x01\x06\x11" + strings.Repeat("\x00\x00", 17), api.ErrLong}, {head + "\x00\x01\x01\x00\x01\x06\x10" + strings.Repeat("\x00\x00", 16), 0}, {head + "\x00\x01\x01\x00\x01\x06\xff" + strings.Repeat("\x00\x00", 254), api.ErrShort},
		{"\x01b\x00\x08\x00\x00", api.ErrID}, {"\x00\x00\x08\x00\x00", api.ErrID}, {"\x00\x00\x08\x00\x00x", api.ErrBad}, {"\x04@b:x\x00\x00\x00\x00", api.ErrArg}, {"\x04@b:x\x04\x01\x00\x00", api.ErrArg}, {"\x04@b:x\x04\x00\x00\x00", 0}, {head + "\x01\x2c" + strings.Repeat(step, 300), 0}, {head + "\x01\x2d" + strings.Repeat(step, 301), api.ErrLong},
		{head + "\x01\x2d" + strings.Repeat(step, 300), api.ErrShort}, {"\x01b\x00\x00\x00\x01\x02", api.ErrBad}, {"\xff", api.ErrShort},
	} {
		s, e := script.Read(x.b)
		if e != x.want || e != api.OK && !script.Same(s, api.Script{}) {
			t.Errorf("%d: Read = %v, want %v", i, e, x.want)
		}
		if e == api.OK {
			if b, f := script.Bytes(s); b != x.b || f != api.OK {
				t.Errorf("%d: Bytes of what is read: %q", i, b)
			}
		}
	}
}

func TestP25_2InputsAndSame(t *testing.T) {
	s := steps(api.Step{Input: restart()}, api.Step{Crash: true, Input: record.Take("x"), Cuts: []int{1}}, api.Step{Input: api.Input{Kind: 77}})
	if got := script.Inputs(s); !slices.Equal(got, []api.Input{restart(), record.Take("x"), {Kind: 77}}) {
		t.Error(got)
	}
	if len(script.Inputs(api.Script{})) != 0 {
		t.Error("no steps")
	}
	one := api.Step{Input: restart()}
	l := []api.Script{{}, {Bot: "x"}, {Sectors: 1}, {Steps: []api.Step{one}}, {Steps: []api.Step{one, one}}, {Steps: []api.Step{{}}}, {Steps: []api.Step{{Crash: true, Input: restart()}}}, {Steps: []api.Step{{Input: restart(), Cuts: []int{1}}}}, {Steps: []api.Step{{Input: restart(), Cuts: []int{2}}}}, {Steps: []api.Step{{Input: restart(), Cuts: []int{1, 2}}}}}
	for i, a := range l {
		for j, b := range l {
			c := b
			c.Steps = nil
			for _, step := range b.Steps {
				step.Cuts = slices.Clone(step.Cuts)
				c.Steps = append(c.Steps, step)
			}
			if got := script.Same(a, c); got != (i == j) {
				t.Errorf("Same of %d and %d is %v", i, j, got)
			}
		}
	}
	if !script.Same(api.Script{Steps: []api.Step{}}, api.Script{}) || !script.Same(steps(api.Step{Cuts: []int{}}), steps(api.Step{})) {
		t.Error("a nil slice and an empty one are the same")
	}
}

func TestP25_3(t *testing.T) {
	r := rand.New(rand.NewSource(33))
	for range 1500 {
		s := api.Script{Bot: []string{bot, "@c:Y.org:80"}[r.Intn(2)], Sectors: 1 + r.Intn(1024)}
		for range r.Intn(8) {
			step := api.Step{Crash: r.Intn(2) == 0}
			step.Input = []api.Input{restart(), record.Take(strings.Repeat("x", r.Intn(600))), record.Command(r.Intn(256), "a"), {Kind: api.InTick, N: r.Int63n(1 << 60)}, {Kind: api.InReply, N: r.Int63n(1 << 60), OK: r.Intn(2) == 0}, {Kind: api.InLong, N: 4097 + r.Int63n(1<<59)}}[r.Intn(6)]
			for range r.Intn(17) {
				if step.Crash {
					step.Cuts = append(step.Cuts, r.Intn(601))
				}
			}
			s.Steps = append(s.Steps, step)
		}
		b, e := script.Bytes(s)
		if e != api.OK {
			t.Fatal(e)
		}
		if back, e := script.Read(b); e != api.OK || !script.Same(back, s) {
			t.Fatalf("%v is read as %v, %v", s, back, e)
		}
		for range 20 {
			c := []byte(b)
			c[r.Intn(len(c))] = byte(r.Intn(256))
			c = c[:len(c)-r.Intn(2)*r.Intn(len(c))]
			if s, e := script.Read(string(c)); e == api.OK {
				if again, e := script.Bytes(s); again != string(c) || e != api.OK {
					t.Fatalf("%x is written as %x", c, again)
				}
			}
		}
		for i := range len(b) {
			if _, e := script.Read(b[:i]); e != api.ErrShort {
				t.Fatalf("a proper prefix: %v", e)
			}
		}
	}
}
