package script

import (
	"outlaw/api"
	"outlaw/record"
)

// A fault is the panic by which a reader gives up.
type fault api.Errno

// A reader has what is left of the bytes of a script.
type reader struct{ rest string }

// Read returns the script of bytes.
func Read(b string) (s api.Script, e api.Errno) {
	defer func() {
		if f, is := recover().(fault); is {
			s, e = api.Script{}, api.Errno(f)
		}
	}()
	r := &reader{b}
	s = r.script()
	if _, e := Check(s); e != api.OK {
		panic(fault(e))
	}
	return s, api.OK
}

func (r *reader) script() api.Script {
	var s api.Script
	s.Bot = r.take(r.byte())
	s.Sectors = r.number()
	s.Steps = list(r.number(), r.step)
	if r.rest != "" {
		panic(fault(api.ErrBad))
	}
	return s
}

func (r *reader) step() api.Step {
	crash := r.byte()
	if crash > 1 {
		panic(fault(api.ErrBad))
	}
	in, e := record.Read(r.take(r.number()))
	if e != api.OK {
		panic(fault(e))
	}
	step := api.Step{Crash: crash == 1, Input: in}
	if step.Crash {
		step.Cuts = list(r.byte(), r.number)
	}
	return step
}

// list reads so many parts of one kind.
func list[T any](n int, part func() T) []T {
	var l []T
	for range n {
		l = append(l, part())
	}
	return l
}

func (r *reader) take(n int) string {
	if n > len(r.rest) {
		panic(fault(api.ErrShort))
	}
	s := r.rest[:n]
	r.rest = r.rest[n:]
	return s
}

func (r *reader) byte() int {
	return int(r.take(1)[0])
}

// number reads two bytes, big-endian.
func (r *reader) number() int {
	return r.byte()<<8 | r.byte()
}
