// Package scan is layer 1: the tokens of JSON at the beginning of a string.
package scan

import (
	"strconv"
	"strings"
	"unicode/utf8"

	"outlaw/api"
)

// Space returns the number of blanks with which s begins.
func Space(s string) int {
	for i := range len(s) {
		if !blank(s[i]) {
			return i
		}
	}
	return len(s)
}

func blank(c byte) bool {
	return c == ' ' || c == '\t' || c == '\n' || c == '\r'
}

// Valid reports whether s is valid UTF-8.
func Valid(s string) bool {
	for i, r := range s {
		if r == utf8.RuneError && !replacement(s[i:]) {
			return false
		}
	}
	return true
}

// replacement tells the code point U+FFFD itself from the mark that a range gives for broken bytes.
func replacement(s string) bool {
	return strings.HasPrefix(s, "\uFFFD")
}

// Quote returns the literal of s in the unique form.
func Quote(s string) (string, api.Errno) {
	if !Valid(s) {
		return "", api.ErrText
	}
	var b strings.Builder
	b.WriteByte('"')
	for _, r := range s {
		quoteRune(&b, r)
	}
	b.WriteByte('"')
	return b.String(), api.OK
}

func quoteRune(b *strings.Builder, r rune) {
	const digits = "0123456789abcdef"
	switch r {
	case '"', '\\':
		b.WriteByte('\\')
		b.WriteRune(r)
	case '\b':
		b.WriteString("\\b")
	case '\f':
		b.WriteString("\\f")
	case '\n':
		b.WriteString("\\n")
	case '\r':
		b.WriteString("\\r")
	case '\t':
		b.WriteString("\\t")
	default:
		if r >= ' ' {
			b.WriteRune(r)
			return
		}
		b.WriteString("\\u00")
		b.WriteByte(digits[r>>4])
		b.WriteByte(digits[r&15])
	}
}

// Number returns the digits of n, preceded by - if it is below 0.
func Number(n int64) (string, api.Errno) {
	if n < -api.MostNumber || n > api.MostNumber {
		return "", api.ErrArg
	}
	return strconv.FormatInt(n, 10), api.OK
}

// ReadNumber returns the number with which s begins, and how many bytes it has.
func ReadNumber(s string) (n int64, size int, e api.Errno) {
	start := 0
	if strings.HasPrefix(s, "-") {
		start = 1
	}
	if start == len(s) {
		return 0, 0, api.ErrShort
	}
	if !digit(s[start]) {
		return 0, 0, api.ErrBad
	}
	end := start
digits:
	for ; end < len(s); end++ {
		switch {
		case !digit(s[end]):
			break digits
		case n > api.MostNumber:
			// What follows makes it no smaller, and more digits would overflow.
			continue digits
		}
		n = 10*n + int64(s[end]-'0')
	}
	if s[start] == '0' && end > 1 {
		return 0, 0, api.ErrBad
	}
	if n > api.MostNumber {
		return 0, 0, api.ErrLong
	}
	if start == 1 {
		n = -n
	}
	return n, end, api.OK
}

func digit(c byte) bool {
	return c >= '0' && c <= '9'
}

// Word returns the word with which s begins, otherwise the empty string.
func Word(s string) string {
	for _, w := range [3]string{"true", "false", "null"} {
		if strings.HasPrefix(s, w) {
			return w
		}
	}
	return ""
}
