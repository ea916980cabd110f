package record

import (
	"math"

	"outlaw/api"
)

// A fault is the panic by which a record gives up.
type fault api.Errno

// A reader has what is left of a record.
type reader struct{ rest string }

// Read returns the input of a record.
func Read(s string) (in api.Input, e api.Errno) {
	defer func() {
		if f, is := recover().(fault); is {
			in, e = api.Input{}, api.Errno(f)
		}
	}()
	r := &reader{s}
	in = r.input()
	if e := Check(in); e != api.OK {
		panic(fault(e))
	}
	return in, api.OK
}

// input reads what all kinds have in common, and then what each has.
func (r *reader) input() api.Input {
	in := api.Input{Kind: int(r.take(1)[0])}
	switch in.Kind {
	case api.InCommand:
		in.Code = int(r.take(1)[0])
		fallthrough
	case api.InEvent:
		in.Text = r.take(len(r.rest))
	case api.InReply:
		in.N = r.number()
		in.OK = r.flag()
	case api.InLong, api.InTick:
		in.N = r.number()
	case api.InRestart:
	default:
		panic(fault(api.ErrKind))
	}
	if r.rest != "" {
		panic(fault(api.ErrBad))
	}
	return in
}

func (r *reader) take(n int) string {
	if n > len(r.rest) {
		panic(fault(api.ErrShort))
	}
	s := r.rest[:n]
	r.rest = r.rest[n:]
	return s
}

// number reads eight bytes; what is too great for an N of any kind stays so.
func (r *reader) number() int64 {
	n := uint64(0)
	for _, c := range []byte(r.take(8)) {
		n = n<<8 | uint64(c)
	}
	return int64(min(n, math.MaxInt64))
}

func (r *reader) flag() bool {
	c := r.take(1)[0]
	if c > 1 {
		panic(fault(api.ErrBad))
	}
	return c == 1
}
