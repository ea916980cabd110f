package record_test

import (
	"encoding/binary"
	"encoding/hex"
	"math"
	"math/rand"
	"strings"
	"testing"

	"outlaw/api"
	"outlaw/record"
)

const most = 1 << 60

// inputs are valid ones of all kinds, also at the limits.
func inputs() []api.Input {
	long := strings.Repeat("\xff", 4096)
	return []api.Input{
		{Kind: api.InEvent}, {Kind: api.InEvent, Text: "{}\x00"}, {Kind: api.InEvent, Text: long}, {Kind: api.InLong, N: 4097}, {Kind: api.InLong, N: most - 1}, {Kind: api.InReply}, {Kind: api.InReply, OK: true}, {Kind: api.InReply, N: 258, OK: true},
		{Kind: api.InReply, N: most}, {Kind: api.InTick}, {Kind: api.InTick, N: 1}, {Kind: api.InTick, N: most}, {Kind: api.InCommand}, {Kind: api.InCommand, Code: 255}, {Kind: api.InCommand, Code: 7, Text: "\x00x"}, {Kind: api.InCommand, Code: 1, Text: long[:300]}, {Kind: api.InRestart},
	}
}

func TestP21_1Check(t *testing.T) {
	for i, in := range inputs() {
		if e := record.Check(in); e != api.OK {
			t.Errorf("%d: %v", i, e)
		}
	}
	long := strings.Repeat("x", 4097)
	for i, x := range []struct {
		in   api.Input
		want api.Errno
	}{
		{api.Input{}, api.ErrKind}, {api.Input{Kind: -1}, api.ErrKind}, {api.Input{Kind: 7}, api.ErrKind}, {api.Input{Kind: math.MaxInt, N: -1, Text: long}, api.ErrKind},
		{api.Input{Kind: api.InEvent, N: 1}, api.ErrArg}, {api.Input{Kind: api.InEvent, N: -1}, api.ErrArg}, {api.Input{Kind: api.InEvent, Code: 1}, api.ErrArg}, {api.Input{Kind: api.InEvent, Code: -1}, api.ErrArg}, {api.Input{Kind: api.InEvent, OK: true}, api.ErrArg},
		{api.Input{Kind: api.InEvent, OK: true, Text: long}, api.ErrArg}, {api.Input{Kind: api.InEvent, Text: long}, api.ErrLong},
		{api.Input{Kind: api.InLong, N: 4096}, api.ErrArg}, {api.Input{Kind: api.InLong}, api.ErrArg}, {api.Input{Kind: api.InLong, N: -5000}, api.ErrArg}, {api.Input{Kind: api.InLong, N: most}, api.ErrArg}, {api.Input{Kind: api.InLong, N: 5000, OK: true}, api.ErrArg},
		{api.Input{Kind: api.InLong, N: 5000, Code: 1}, api.ErrArg}, {api.Input{Kind: api.InLong, N: 5000, Text: "x"}, api.ErrArg}, {api.Input{Kind: api.InLong, N: 5000, Text: long}, api.ErrArg},
		{api.Input{Kind: api.InReply, N: -1}, api.ErrArg}, {api.Input{Kind: api.InReply, N: most + 1}, api.ErrArg}, {api.Input{Kind: api.InReply, Code: 1}, api.ErrArg}, {api.Input{Kind: api.InReply, Text: "x"}, api.ErrArg}, {api.Input{Kind: api.InReply, Text: long}, api.ErrArg},
		{api.Input{Kind: api.InTick, N: -1}, api.ErrArg}, {api.Input{Kind: api.InTick, N: most + 1}, api.ErrArg}, {api.Input{Kind: api.InTick, N: math.MinInt64}, api.ErrArg}, {api.Input{Kind: api.InTick, N: math.MaxInt64}, api.ErrArg}, {api.Input{Kind: api.InTick, OK: true}, api.ErrArg},
		{api.Input{Kind: api.InTick, Code: 1}, api.ErrArg}, {api.Input{Kind: api.InTick, Text: "x"}, api.ErrArg},
		{api.Input{Kind: api.InCommand, Code: -1}, api.ErrArg}, {api.Input{Kind: api.InCommand, Code: 256}, api.ErrArg}, {api.Input{Kind: api.InCommand, N: 1}, api.ErrArg}, {api.Input{Kind: api.InCommand, OK: true}, api.ErrArg}, {api.Input{Kind: api.InCommand, Text: long[:301]}, api.ErrLong},
		{api.Input{Kind: api.InCommand, Code: 256, Text: long}, api.ErrArg}, {api.Input{Kind: api.InCommand, Code: math.MaxInt}, api.ErrArg},
		{api.Input{Kind: api.InRestart, N: 1}, api.ErrArg}, {api.Input{Kind: api.InRestart, OK: true}, api.ErrArg}, {api.Input{Kind: api.InRestart, Code: 1}, api.ErrArg}, {api.Input{Kind: api.InRestart, Text: "x"}, api.ErrArg}, {api.Input{Kind: api.InRestart, Text: long}, api.ErrArg},
	} {
		if e := record.Check(x.in); e != x.want {
			t.Errorf("%d: Check = %v, want %v", i, e, x.want)
		}
		if s, e := record.Bytes(x.in); s != "" || e != x.want {
			t.Errorf("%d: Bytes = %.10q, %v", i, s, e)
		}
	}
}

func TestP21_1Bytes(t *testing.T) {
	for want, in := range map[string]api.Input{
		"03000000000000010201": {Kind: api.InReply, N: 258, OK: true}, "06": {Kind: api.InRestart}, "01": {Kind: api.InEvent}, "017b7d00ff": {Kind: api.InEvent, Text: "{}\x00\xff"}, "020000000000001388": {Kind: api.InLong, N: 5000}, "03000000000000000000": {Kind: api.InReply},
		"041000000000000000": {Kind: api.InTick, N: most}, "040102030405060708": {Kind: api.InTick, N: 0x0102030405060708}, "05ff61": {Kind: api.InCommand, Code: 255, Text: "a"}, "0500": {Kind: api.InCommand}, "03100000000000000001": {Kind: api.InReply, N: most, OK: true},
	} {
		s, e := record.Bytes(in)
		if hex.EncodeToString([]byte(s)) != want || e != api.OK {
			t.Errorf("Bytes(%v) = %x, %v, want %s", in, s, e, want)
		}
		if back, e := record.Read(s); back != in || e != api.OK {
			t.Errorf("Read(%s) = %v, %v", want, back, e)
		}
	}
}

func number(kind byte, n uint64) string {
	return string(binary.BigEndian.AppendUint64([]byte{kind}, n))
}

func TestP21_1Read(t *testing.T) {
	long := strings.Repeat("x", 4097)
	for i, x := range []struct {
		s    string
		want api.Errno
	}{
		{"", api.ErrShort}, {"\x00", api.ErrKind}, {"\x07", api.ErrKind}, {"\xff" + long, api.ErrKind}, {"\x02", api.ErrShort}, {number(2, 5000)[:8], api.ErrShort}, {number(2, 5000) + "x", api.ErrBad}, {number(2, 4096), api.ErrArg}, {number(2, most), api.ErrArg}, {number(2, 0) + "x", api.ErrBad},
		{number(2, 1<<63), api.ErrArg}, {number(2, math.MaxUint64), api.ErrArg}, {"\x03", api.ErrShort}, {number(3, 5), api.ErrShort}, {number(3, 5)[:8], api.ErrShort}, {number(3, 5) + "\x02", api.ErrBad}, {number(3, 5) + "\xff", api.ErrBad}, {number(3, 5) + "\x01x", api.ErrBad}, {number(3, 5) + "\x02x", api.ErrBad},
		{number(3, most+1) + "\x01", api.ErrArg}, {number(3, most+1) + "\x02", api.ErrBad}, {number(3, most+1), api.ErrShort}, {number(3, math.MaxUint64) + "\x00", api.ErrArg}, {"\x04", api.ErrShort}, {number(4, 0)[:8], api.ErrShort}, {number(4, 0) + "\x00", api.ErrBad}, {number(4, most+1), api.ErrArg}, {number(4, 1<<63), api.ErrArg}, {number(4, math.MaxUint64), api.ErrArg},
		{"\x05", api.ErrShort}, {"\x05\x01" + long[:301], api.ErrLong}, {"\x06x", api.ErrBad}, {"\x06\x00", api.ErrBad}, {"\x01" + long, api.ErrLong}, {"\x05\x01" + long, api.ErrLong},
	} {
		if in, e := record.Read(x.s); in != (api.Input{}) || e != x.want {
			t.Errorf("%d: Read(%.12q) = %v, %v, want %v", i, x.s, in, e, x.want)
		}
	}
}

func TestP21_2TakeAndCommand(t *testing.T) {
	for n, want := range map[int]int{0: api.InEvent, 1: api.InEvent, 4096: api.InEvent, 4097: api.InLong, 100000: api.InLong} {
		text := strings.Repeat("x", n)
		in := record.Take(text)
		if in.Kind != want || record.Check(in) != api.OK {
			t.Errorf("Take of %d bytes: %v", n, in.Kind)
		}
		if want == api.InEvent && in != (api.Input{Kind: api.InEvent, Text: text}) || want == api.InLong && in != (api.Input{Kind: api.InLong, N: int64(n)}) {
			t.Errorf("Take of %d bytes", n)
		}
	}
	for _, x := range []api.Input{{Kind: api.InCommand, Code: 3, Text: "a b"}, {Kind: api.InCommand, Code: -9, Text: strings.Repeat("x", 500)}, {Kind: api.InCommand}} {
		if got := record.Command(x.Code, x.Text); got != x {
			t.Errorf("Command = %v", got)
		}
	}
}

func TestP21_2Line(t *testing.T) {
	for in, want := range map[api.Input]string{
		{Kind: api.InEvent, Text: "\u20ac{}", N: 7}:       "event 5",
		{Kind: api.InEvent}:                               "event 0",
		{Kind: api.InLong, N: 5000}:                       "long 5000",
		{Kind: api.InLong, N: math.MinInt64}:              "long -9223372036854775808",
		{Kind: api.InReply, N: 12, OK: true}:              "reply 12 yes",
		{Kind: api.InReply, N: -12}:                       "reply -12 no",
		{Kind: api.InTick, N: 0}:                          "tick 0",
		{Kind: api.InTick, N: -1234567890}:                "tick -1234567890",
		{Kind: api.InCommand, Code: 3, Text: "!r:s \xff"}: "command 3 !r:s \xff",
		{Kind: api.InCommand, Code: -3}:                   "command -3 ",
		{Kind: api.InRestart, N: 4, Text: "x"}:            "restart",
		{}:                                                "?",
		{Kind: 7, N: 1, Text: "x"}:                        "?",
		{Kind: -1}:                                        "?",
	} {
		if got := record.Line(in); got != want {
			t.Errorf("Line(%v) = %q", in, got)
		}
	}
}

func TestP21_3(t *testing.T) {
	seen := map[string]api.Input{}
	for _, in := range inputs() {
		s, e := record.Bytes(in)
		if back, f := record.Read(s); e != api.OK || f != api.OK || back != in || len(s) > api.MostRecord {
			t.Errorf("%v is read as %v, %v, %v", in, back, e, f)
		}
		if _, has := seen[s]; has {
			t.Errorf("two inputs have the record %.20q", s)
		}
		seen[s] = in
	}
	r := rand.New(rand.NewSource(28))
	read := 0
	for range 50000 {
		b := make([]byte, r.Intn(14))
		for i := range b {
			b[i] = []byte{0, 0, 0, 1, 2, 16, 255}[r.Intn(7)]
		}
		if len(b) > 0 {
			b[0] = byte(r.Intn(8))
		}
		in, e := record.Read(string(b))
		if e != api.OK {
			if in != (api.Input{}) {
				t.Fatal("an input beside an error")
			}
			continue
		}
		read++
		if s, e := record.Bytes(in); s != string(b) || e != api.OK {
			t.Fatalf("%x is written as %x, %v", b, s, e)
		}
	}
	if read < 5000 {
		t.Error(read)
	}
}
