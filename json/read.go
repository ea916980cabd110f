package json

import (
	"strings"

	"outlaw/api"
	"outlaw/scan"
)

// A reader is a text, and how far it has been read.
type reader struct {
	text string
	at   int
}

// An inside reads a value inside another one; it is nil where none is allowed.
type inside func() (api.Json, api.Errno)

// Read returns the value with which s begins, no deeper than depth, and how many bytes it has.
func Read(s string, depth int) (v api.Json, size int, e api.Errno) {
	if depth < 0 || depth > api.MostDepth {
		return api.Json{}, 0, api.ErrArg
	}
	r := &reader{text: s}
	v, e = r.value(depth)
	if e != api.OK {
		return api.Json{}, 0, e
	}
	return v, r.at, api.OK
}

func (r *reader) value(depth int) (api.Json, api.Errno) {
	kinds := kindsByByte()
	var contents func(depth int) (api.Json, api.Errno)
	contents = func(depth int) (api.Json, api.Errno) {
		if r.ended() {
			return api.Json{}, api.ErrShort
		}
		read, is := kinds[r.text[r.at]]
		if !is {
			return api.Json{}, api.ErrBad
		}
		if depth == 0 {
			return read(r, nil)
		}
		return read(r, func() (api.Json, api.Errno) { return contents(depth - 1) })
	}
	return contents(depth)
}

// kindsByByte says by its first byte how a value is read.
func kindsByByte() map[byte]func(*reader, inside) (api.Json, api.Errno) {
	kinds := map[byte]func(*reader, inside) (api.Json, api.Errno){
		'"': (*reader).literal,
		'-': (*reader).number,
		't': (*reader).word,
		'f': (*reader).word,
		'n': (*reader).word,
		'[': (*reader).list,
		'{': (*reader).object,
	}
	for c := byte('0'); c <= '9'; c++ {
		kinds[c] = (*reader).number
	}
	return kinds
}

func (r *reader) ended() bool {
	return r.at == len(r.text)
}

func (r *reader) skip() {
	r.at += scan.Space(r.text[r.at:])
}

func (r *reader) literal(inside) (api.Json, api.Errno) {
	text, e := r.key()
	if e != api.OK {
		return api.Json{}, e
	}
	return api.Json{Kind: api.JsonText, Text: text}, api.OK
}

// key reads a literal, as a key or as a value.
func (r *reader) key() (string, api.Errno) {
	text, size, e := scan.Unquote(r.text[r.at:])
	r.at += size
	return text, e
}

func (r *reader) number(inside) (api.Json, api.Errno) {
	n, size, e := scan.ReadNumber(r.text[r.at:])
	if e != api.OK {
		return api.Json{}, e
	}
	r.at += size
	return api.Json{Kind: api.JsonNumber, N: n}, api.OK
}

func (r *reader) word(inside) (api.Json, api.Errno) {
	rest := r.text[r.at:]
	w := scan.Word(rest)
	r.at += len(w)
	switch w {
	case "true":
		return api.Json{Kind: api.JsonBool, N: 1}, api.OK
	case "false":
		return api.Json{Kind: api.JsonBool}, api.OK
	case "null":
		return api.Json{Kind: api.JsonNull}, api.OK
	}
	for _, w := range [3]string{"true", "false", "null"} {
		if strings.HasPrefix(w, rest) {
			return api.Json{}, api.ErrShort
		}
	}
	return api.Json{}, api.ErrBad
}

func (r *reader) list(item inside) (api.Json, api.Errno) {
	if item == nil {
		return api.Json{}, api.ErrDepth
	}
	v := api.Json{Kind: api.JsonList}
	e := r.pieces(']', func() api.Errno {
		x, e := item()
		v.Items = append(v.Items, x)
		return e
	})
	if e != api.OK {
		return api.Json{}, e
	}
	return v, api.OK
}

func (r *reader) object(item inside) (api.Json, api.Errno) {
	if item == nil {
		return api.Json{}, api.ErrDepth
	}
	v := api.Json{Kind: api.JsonObject}
	seen := map[string]bool{}
	e := r.pieces('}', func() api.Errno {
		key, e := r.key()
		if e != api.OK {
			return e
		}
		if seen[key] {
			return api.ErrTwice
		}
		seen[key] = true
		if e := r.colon(); e != api.OK {
			return e
		}
		x, e := item()
		v.Keys, v.Items = append(v.Keys, key), append(v.Items, x)
		return e
	})
	if e != api.OK {
		return api.Json{}, e
	}
	return v, api.OK
}

func (r *reader) colon() api.Errno {
	r.skip()
	if r.ended() {
		return api.ErrShort
	}
	if r.text[r.at] != ':' {
		return api.ErrBad
	}
	r.at++
	r.skip()
	return api.OK
}

// pieces reads what stands between the bracket at the position and the byte end, piece by piece with commas.
func (r *reader) pieces(end byte, piece func() api.Errno) api.Errno {
	r.at++
	r.skip()
	if !r.ended() && r.text[r.at] == end {
		r.at++
		return api.OK
	}
	for {
		if e := piece(); e != api.OK {
			return e
		}
		r.skip()
		if r.ended() {
			return api.ErrShort
		}
		c := r.text[r.at]
		if c != ',' && c != end {
			return api.ErrBad
		}
		r.at++
		if c == end {
			return api.OK
		}
		r.skip()
	}
}
