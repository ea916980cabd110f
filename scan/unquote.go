package scan

import (
	"strings"
	"unicode/utf8"

	"outlaw/api"
)

// The first and the last surrogates, high and low.
const (
	highFirst = 0xd800
	lowFirst  = 0xdc00
	lowLast   = 0xdfff
	aboveBMP  = 0x10000
)

// Unquote returns the text of the literal with which s begins, and how many bytes the literal has.
func Unquote(s string) (text string, size int, e api.Errno) {
	if s == "" {
		return "", 0, api.ErrShort
	}
	if s[0] != '"' {
		return "", 0, api.ErrBad
	}
	var b strings.Builder
	for at := 1; at < len(s); {
		if s[at] == '"' {
			return b.String(), at + 1, api.OK
		}
		n, e := unquotePiece(&b, s[at:])
		if e != api.OK {
			return "", 0, e
		}
		at += n
	}
	return "", 0, api.ErrShort
}

// unquotePiece writes the code point that s begins with, escaped or not, and returns how many bytes stand for it.
func unquotePiece(b *strings.Builder, s string) (int, api.Errno) {
	if s[0] < ' ' {
		return 0, api.ErrBad
	}
	if s[0] == '\\' {
		return unescape(b, s)
	}
	r, n := utf8.DecodeRuneInString(s)
	if r == utf8.RuneError && n == 1 {
		return 0, api.ErrText
	}
	b.WriteRune(r)
	return n, api.OK
}

// unescape writes the code point of the escape that s begins with, and returns how many bytes the escape has.
func unescape(b *strings.Builder, s string) (int, api.Errno) {
	if len(s) < 2 {
		return 0, api.ErrShort
	}
	if s[1] == 'u' {
		return unescapeCode(b, s)
	}
	c, is := escaped(s[1])
	if !is {
		return 0, api.ErrBad
	}
	b.WriteByte(c)
	return 2, api.OK
}

// escaped returns what the byte c stands for after a \, and whether it stands for anything.
func escaped(c byte) (byte, bool) {
	switch c {
	case '"':
		fallthrough
	case '\\':
		fallthrough
	case '/':
		return c, true
	case 'b':
		return '\b', true
	case 'f':
		return '\f', true
	case 'n':
		return '\n', true
	case 'r':
		return '\r', true
	case 't':
		return '\t', true
	}
	return 0, false
}

// unescapeCode does what unescape does for a \u, with the second \u that a high surrogate requires.
func unescapeCode(b *strings.Builder, s string) (int, api.Errno) {
	r, e := hex(s[2:])
	if e != api.OK {
		return 0, e
	}
	if r < highFirst || r > lowLast {
		b.WriteRune(r)
		return 6, api.OK
	}
	if r >= lowFirst {
		return 0, api.ErrText
	}
	low, e := lowSurrogate(s[6:])
	if e != api.OK {
		return 0, e
	}
	b.WriteRune(aboveBMP + (r-highFirst)<<10 + (low - lowFirst))
	return 12, api.OK
}

// lowSurrogate reads the \u of a low surrogate, which s must begin with.
func lowSurrogate(s string) (rune, api.Errno) {
	for i := range 2 {
		if i == len(s) {
			return 0, api.ErrShort
		}
		if s[i] != "\\u"[i] {
			return 0, api.ErrText
		}
	}
	r, e := hex(s[2:])
	if e != api.OK {
		return 0, e
	}
	if r < lowFirst || r > lowLast {
		return 0, api.ErrText
	}
	return r, api.OK
}

// hex returns the number of the four hexadecimal digits that s must begin with.
func hex(s string) (rune, api.Errno) {
	r := rune(0)
	for i := range 4 {
		if i == len(s) {
			return 0, api.ErrShort
		}
		d, is := hexDigit(s[i])
		if !is {
			return 0, api.ErrBad
		}
		r = r<<4 + d
	}
	return r, api.OK
}

func hexDigit(c byte) (rune, bool) {
	switch {
	case digit(c):
		return rune(c - '0'), true
	case c >= 'a' && c <= 'f':
		return rune(c-'a') + 10, true
	case c >= 'A' && c <= 'F':
		return rune(c-'A') + 10, true
	}
	return 0, false
}
