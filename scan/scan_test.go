package scan_test

import (
	"encoding/json"
	"fmt"
	"math"
	"math/rand"
	"strconv"
	"strings"
	"testing"
	"unicode/utf8"

	"outlaw/api"
	"outlaw/scan"
)

func TestP1_1Space(t *testing.T) {
	for s, want := range map[string]int{
		"": 0, " ": 1, "\t": 1, "\n": 1, "\r": 1, " \t\r\n x ": 5, "x ": 0,
		"\v ": 0, "\f": 0, "\x00": 0, "\u00a0": 0, "  ": 2, "\b": 0, "!": 0, "\x0e": 0, "\x1f": 0,
	} {
		if got := scan.Space(s); got != want {
			t.Errorf("Space(%q) = %d, want %d", s, got, want)
		}
	}
	for c := range 256 {
		want := 0
		if c == 9 || c == 10 || c == 13 || c == 32 {
			want = 1
		}
		if got := scan.Space(string([]byte{byte(c)})); got != want {
			t.Errorf("Space of the byte %d = %d, want %d", c, got, want)
		}
	}
}

func TestP1_1Valid(t *testing.T) {
	for s, want := range map[string]bool{
		"": true, "a": true, "\x00": true, "\x7f": true, "\u0080": true, "\u07ff": true, "\u0800": true, "\ufffd": true,
		"\uffff": true, "\U00010000": true, "\U0010ffff": true, "\ud7ff": true, "\ue000": true, "a\ufffd\U0001f600b": true,
		"\x80": false, "\xff": false, "\xc0\x80": false, "\xc1\xbf": false, "\xc3": false, "\xe0\x80\x80": false,
		"\xe0\x9f\xbf": false, "\xed\xa0\x80": false, "\xed\xbf\xbf": false, "\xf0\x8f\xbf\xbf": false, "\xf4\x90\x80\x80": false,
		"\xf0\x9f\x98": false, "\xe2\x82": false, "ab\xfe": false, "\ufffd\xff": false, "\xff\ufffd": false, "\xef\xbf": false,
		"\xf5\x80\x80\x80": false, "a\xc3b": false,
	} {
		if got := scan.Valid(s); got != want {
			t.Errorf("Valid(%q) = %v, want %v", s, got, want)
		}
	}
	r := rand.New(rand.NewSource(1))
	for range 20000 {
		b := make([]byte, r.Intn(6))
		for i := range b {
			b[i] = []byte("a\x80\x8f\x90\x9f\xa0\xbf\xc0\xc2\xdf\xe0\xe1\xed\xee\xef\xf0\xf1\xf4\xf5\xff")[r.Intn(20)]
		}
		if got := scan.Valid(string(b)); got != utf8.Valid(b) {
			t.Fatalf("Valid(%q) = %v", b, got)
		}
	}
}

func TestP1_1Quote(t *testing.T) {
	for s, want := range map[string]string{
		"":                  `""`,
		"a\n\"":             `"a\n\""`,
		"\\":                `"\\"`,
		"/":                 `"/"`,
		"\b\f\n\r\t":        `"\b\f\n\r\t"`,
		"\x00\x01\x0b\x0e":  `"\u0000\u0001\u000b\u000e"`,
		"\x0f\x10\x1a\x1f":  `"\u000f\u0010\u001a\u001f"`,
		" \x7f":             "\" \x7f\"",
		"\u20ac\U0001f600":  "\"\u20ac\U0001f600\"",
		"\u2028<>&'":        "\"\u2028<>&'\"",
		"\ufffd\U0010ffff.": "\"\ufffd\U0010ffff.\"",
	} {
		if got, e := scan.Quote(s); got != want || e != api.OK {
			t.Errorf("Quote(%q) = %q, %v, want %q", s, got, e, want)
		}
	}
	for _, s := range []string{"\xff", "a\x80", "\xed\xa0\x80\"", "\n\xc3"} {
		if got, e := scan.Quote(s); got != "" || e != api.ErrText {
			t.Errorf("Quote(%q) = %q, %v, want ErrText alone", s, got, e)
		}
	}
	for c := range 128 {
		s := string(rune(c))
		got, e := scan.Quote(s)
		if e != api.OK || got != quotedASCII(c) {
			t.Errorf("Quote(%q) = %q, %v", s, got, e)
		}
	}
}

func quotedASCII(c int) string {
	if i := strings.IndexByte("\"\\\b\f\n\r\t", byte(c)); i >= 0 {
		return `"\` + `"\bfnrt`[i:i+1] + `"`
	}
	if c < 32 {
		return fmt.Sprintf("\"\\u%04x\"", c)
	}
	return `"` + string(rune(c)) + `"`
}

type unquoted struct {
	s, text string
	size    int
	e       api.Errno
}

func checkUnquote(t *testing.T, l []unquoted) {
	t.Helper()
	for _, x := range l {
		if text, size, e := scan.Unquote(x.s); text != x.text || size != x.size || e != x.e {
			t.Errorf("Unquote(%q) = %q, %d, %v, want %q, %d, %v", x.s, text, size, e, x.text, x.size, x.e)
		}
	}
}

func TestP1_1UnquoteReads(t *testing.T) {
	checkUnquote(t, []unquoted{
		{`""`, "", 2, api.OK},
		{`""""`, "", 2, api.OK},
		{`"a"`, "a", 3, api.OK},
		{`"ab" : 1`, "ab", 4, api.OK},
		{`"\"\\\/\b\f\n\r\t"`, "\"\\/\b\f\n\r\t", 18, api.OK},
		{`"/"`, "/", 3, api.OK},
		{"\"\\u0041\\ud83d\\ude00\"x", "A\U0001f600", 20, api.OK},
		{`"\u00e9\u00E9\uABCD\uabcd"`, "\u00e9\u00e9\uabcd\uabcd", 26, api.OK},
		{`"\u0000\u001f"`, "\x00\x1f", 14, api.OK},
		{`"\ud7ff\ue000\uffff\uFFFD"`, "\ud7ff\ue000\uffff\ufffd", 26, api.OK},
		{`"\ud800\udc00\uDBFF\uDFFF"`, "\U00010000\U0010ffff", 26, api.OK},
		{"\"\x7f\u20ac\U0010ffff\ufffd\"", "\x7f\u20ac\U0010ffff\ufffd", 13, api.OK},
		{`"\u00412"`, "A2", 9, api.OK},
		{"\"a\"\xff", "a", 3, api.OK},
	})
}

func TestP1_1UnquoteRefuses(t *testing.T) {
	short, bad, text := api.ErrShort, api.ErrBad, api.ErrText
	checkUnquote(t, []unquoted{
		{"", "", 0, short}, {`"`, "", 0, short}, {`"a`, "", 0, short}, {`"\`, "", 0, short}, {`"\n`, "", 0, short},
		{`"\u`, "", 0, short}, {`"\u0`, "", 0, short}, {`"\u00`, "", 0, short}, {`"\u004`, "", 0, short}, {`"\u0041`, "", 0, short},
		{`"\ud83d`, "", 0, short}, {`"\ud83d\`, "", 0, short}, {`"\ud83d\u`, "", 0, short}, {`"\ud83d\ud`, "", 0, short},
		{`"\ud83d\ude0`, "", 0, short}, {`"\ud83d\ude00`, "", 0, short}, {`"\ud83d\u004`, "", 0, short},
		{"x", "", 0, bad}, {` "a"`, "", 0, bad}, {"'a'", "", 0, bad}, {"\xff", "", 0, bad}, {"\\", "", 0, bad},
		{"\"\x1f\"", "", 0, bad}, {"\"\x00\"", "", 0, bad}, {"\"\n\"", "", 0, bad}, {"\"\t", "", 0, bad}, {"\"a\x1f", "", 0, bad},
		{`"\x"`, "", 0, bad}, {`"\B"`, "", 0, bad}, {`"\U0041"`, "", 0, bad}, {`"\'"`, "", 0, bad}, {"\"\\\x1f", "", 0, bad},
		{"\"\\\xff", "", 0, bad}, {`"\0"`, "", 0, bad}, {`"\a"`, "", 0, bad}, {`"\v"`, "", 0, bad}, {"\"\\\b\"", "", 0, bad},
		{`"\ug`, "", 0, bad}, {`"\u0g`, "", 0, bad}, {`"\u00G0"`, "", 0, bad}, {`"\u004"`, "", 0, bad}, {`"\u004:"`, "", 0, bad},
		{`"\u004/"`, "", 0, bad}, {`"\u004@"`, "", 0, bad}, {"\"\\u004`\"", "", 0, bad}, {"\"\\u\xff", "", 0, bad}, {`"\u-041"`, "", 0, bad},
		{"\"\xc3", "", 0, text}, {"\"\xc3\"", "", 0, text}, {"\"\x80\"", "", 0, text}, {"\"\xed\xa0\x80\"", "", 0, text},
		{"\"\xf4\x90\x80\x80\"", "", 0, text}, {"\"\xc0\x80\"", "", 0, text}, {"\"\xf0\x9f\x98", "", 0, text}, {"\"a\xff", "", 0, text},
		{`"\udc00"`, "", 0, text}, {`"\udfff"`, "", 0, text}, {`"\udc00`, "", 0, text}, {`"\uDC00\ud800"`, "", 0, text},
		{`"\ud83d"`, "", 0, text}, {`"\ud83dx`, "", 0, text}, {`"\ud83d\n"`, "", 0, text}, {`"\ud83d\"`, "", 0, text},
		{"\"\\ud83d\x1f", "", 0, text}, {"\"\\ud83d\xff", "", 0, text}, {`"\ud83d\U`, "", 0, text}, {"\"\\ud83d\\\xff", "", 0, text},
		{`"\ud83d\u0041"`, "", 0, text}, {`"\ud83d\ud83d"`, "", 0, text}, {`"\ud83d\ue000"`, "", 0, text}, {`"\ud83d\udbff"`, "", 0, text},
		{`"\ud83d\ug"`, "", 0, bad}, {`"\ud83d\ude0g"`, "", 0, bad}, {`"\ud83d\u004g"`, "", 0, bad}, {"\"\\ud83d\\u\x1f", "", 0, bad},
		{`"\udbff\udbff`, "", 0, text}, {`"\ud800\udc0`, "", 0, short}, {`"\ud83d\ude0"`, "", 0, bad},
	})
}

// The first fault from the left counts, whatever follows.
func TestP1_1UnquoteFirst(t *testing.T) {
	checkUnquote(t, []unquoted{
		{"\"\xff\x1f", "", 0, api.ErrText}, {"\"\x1f\xff", "", 0, api.ErrBad}, {"\"\\x\xff", "", 0, api.ErrBad},
		{`"\udc00\x`, "", 0, api.ErrText}, {`"\ug\udc00`, "", 0, api.ErrBad}, {"\"\\ud83d\x1f", "", 0, api.ErrText},
		{"\"a\\u00\xff", "", 0, api.ErrBad}, {"\"\\n\\r\xc3", "", 0, api.ErrText},
	})
}

func TestP1_1UnquoteASCII(t *testing.T) {
	for c := range 128 {
		x := unquoted{"\"" + string(rune(c)) + "\"", string(rune(c)), 3, api.OK}
		switch {
		case c < 32:
			x = unquoted{s: x.s, e: api.ErrBad}
		case c == '"':
			x = unquoted{x.s, "", 2, api.OK}
		case c == '\\':
			x = unquoted{s: x.s, e: api.ErrShort}
		}
		checkUnquote(t, []unquoted{x})
		x = unquoted{s: "\"\\" + string(rune(c)) + "\"", e: api.ErrBad}
		if i := strings.IndexByte(`"\/bfnrt`, byte(c)); i >= 0 {
			x = unquoted{x.s, "\"\\/\b\f\n\r\t"[i : i+1], 4, api.OK}
		}
		checkUnquote(t, []unquoted{x})
		x = unquoted{s: "\"\\u000" + string(rune(c)) + "\"", e: api.ErrBad}
		if n, err := strconv.ParseUint(string(rune(c)), 16, 8); err == nil {
			x = unquoted{x.s, string(rune(n)), 8, api.OK}
		}
		checkUnquote(t, []unquoted{x})
	}
}

// Every code unit, alone and as both halves of a pair, is decided as the surrogates say.
func TestP1_1UnquoteUnits(t *testing.T) {
	for n := range 0x10000 {
		s := fmt.Sprintf("\"\\u%04x\"", n)
		x := unquoted{s, string(rune(n)), 8, api.OK}
		if n >= 0xd800 && n <= 0xdfff {
			x = unquoted{s: s, e: api.ErrText}
		}
		checkUnquote(t, []unquoted{x})
		s = fmt.Sprintf("\"\\ud801\\u%04X\"", n)
		x = unquoted{s: s, e: api.ErrText}
		if n >= 0xdc00 && n <= 0xdfff {
			x = unquoted{s, string(rune(0x10400 + n - 0xdc00)), 14, api.OK}
		}
		checkUnquote(t, []unquoted{x})
	}
	for n := 0xd800; n < 0xdc00; n++ {
		s := fmt.Sprintf("\"\\u%04x\\udc01\"", n)
		checkUnquote(t, []unquoted{{s, string(rune(0x10001 + (n-0xd800)*0x400)), 14, api.OK}})
	}
}

func TestP1_2Number(t *testing.T) {
	for n, want := range map[int64]string{
		0: "0", 7: "7", -1: "-1", -12: "-12", 100: "100", api.MostNumber: "9007199254740991", -api.MostNumber: "-9007199254740991",
	} {
		if got, e := scan.Number(n); got != want || e != api.OK {
			t.Errorf("Number(%d) = %q, %v", n, got, e)
		}
	}
	for _, n := range []int64{api.MostNumber + 1, -api.MostNumber - 1, math.MaxInt64, math.MinInt64} {
		if got, e := scan.Number(n); got != "" || e != api.ErrArg {
			t.Errorf("Number(%d) = %q, %v, want ErrArg alone", n, got, e)
		}
	}
}

func TestP1_2ReadNumber(t *testing.T) {
	for _, x := range []struct {
		s    string
		n    int64
		size int
		e    api.Errno
	}{
		{"0", 0, 1, api.OK}, {"0,", 0, 1, api.OK}, {"7", 7, 1, api.OK}, {"-12,", -12, 3, api.OK}, {"10", 10, 2, api.OK}, {"-1", -1, 2, api.OK},
		{"9", 9, 1, api.OK}, {"1234567890x", 1234567890, 10, api.OK}, {"0.5", 0, 1, api.OK}, {"1e5", 1, 1, api.OK}, {"5-6", 5, 1, api.OK},
		{"1 2", 1, 1, api.OK}, {"3:", 3, 1, api.OK}, {"3/", 3, 1, api.OK}, {"0x10", 0, 1, api.OK}, {"-5-", -5, 2, api.OK},
		{"9007199254740991", api.MostNumber, 16, api.OK}, {"-9007199254740991]", -api.MostNumber, 17, api.OK},
		{"", 0, 0, api.ErrShort}, {"-", 0, 0, api.ErrShort},
		{"x", 0, 0, api.ErrBad}, {" 1", 0, 0, api.ErrBad}, {"+1", 0, 0, api.ErrBad}, {".5", 0, 0, api.ErrBad}, {"--1", 0, 0, api.ErrBad},
		{"-x", 0, 0, api.ErrBad}, {"- 1", 0, 0, api.ErrBad}, {"/", 0, 0, api.ErrBad}, {":", 0, 0, api.ErrBad}, {"\xff", 0, 0, api.ErrBad},
		{"01", 0, 0, api.ErrBad}, {"00", 0, 0, api.ErrBad}, {"-0", 0, 0, api.ErrBad}, {"-0,", 0, 0, api.ErrBad}, {"-01", 0, 0, api.ErrBad},
		{"00x", 0, 0, api.ErrBad}, {"-00", 0, 0, api.ErrBad}, {"0" + strings.Repeat("9", 30), 0, 0, api.ErrBad}, {"-0.5", 0, 0, api.ErrBad},
		{"9007199254740992", 0, 0, api.ErrLong}, {"-9007199254740992", 0, 0, api.ErrLong}, {"90071992547409910", 0, 0, api.ErrLong},
		{"18446744073709551617", 0, 0, api.ErrLong}, {"9223372036854775808", 0, 0, api.ErrLong}, {strings.Repeat("9", 400) + "x", 0, 0, api.ErrLong},
		{"-" + strings.Repeat("1", 300), 0, 0, api.ErrLong}, {"10000000000000000", 0, 0, api.ErrLong},
	} {
		if n, size, e := scan.ReadNumber(x.s); n != x.n || size != x.size || e != x.e {
			t.Errorf("ReadNumber(%q) = %d, %d, %v, want %d, %d, %v", x.s, n, size, e, x.n, x.size, x.e)
		}
	}
}

func TestP1_2Word(t *testing.T) {
	for s, want := range map[string]string{
		"true": "true", "false": "false", "null": "null", "nullx": "null", "true1": "true", "falsefalse": "false",
		"": "", "tru": "", "fals": "", "nul": "", "False": "", "TRUE": "", " true": "", "xnull": "", "n": "", "nil": "", "trve": "",
	} {
		if got := scan.Word(s); got != want {
			t.Errorf("Word(%q) = %q, want %q", s, got, want)
		}
	}
}

// someText is a text with many of the code points that are written in a way of their own.
func someText(r *rand.Rand) string {
	pool := []rune{0, 1, 8, 9, 10, 11, 12, 13, 31, 32, '"', '\\', '/', 'u', 'n', '0', 127, 128, 0x7ff, 0x800, 0x20ac, 0xd7ff, 0xe000, 0xfffd, 0xffff, 0x10000, 0x10ffff}
	l := make([]rune, r.Intn(12))
	for i := range l {
		l[i] = pool[r.Intn(len(pool))]
	}
	return string(l)
}

func TestP1_3UnquoteOfQuote(t *testing.T) {
	r := rand.New(rand.NewSource(2))
	for range 5000 {
		s := someText(r)
		q, e := scan.Quote(s)
		if e != api.OK {
			t.Fatalf("Quote(%q): %v", s, e)
		}
		text, size, e := scan.Unquote(q + someText(r))
		if text != s || size != len(q) || e != api.OK {
			t.Fatalf("Unquote(%q) = %q, %d, %v", q, text, size, e)
		}
		var other string
		if err := json.Unmarshal([]byte(q), &other); err != nil || other != s {
			t.Fatalf("%q is read elsewhere as %q, %v", q, other, err)
		}
	}
}

func TestP1_3NoPrefixIsALiteral(t *testing.T) {
	r := rand.New(rand.NewSource(3))
	for range 500 {
		q, _ := scan.Quote(someText(r))
		for i := range len(q) {
			want := api.ErrShort
			if !utf8.ValidString(q[:i]) {
				want = api.ErrText
			}
			if text, size, e := scan.Unquote(q[:i]); text != "" || size != 0 || e != want {
				t.Fatalf("Unquote(%q) = %q, %d, %v, want %v", q[:i], text, size, e, want)
			}
		}
	}
	s := `"\ud83d\ude00\u0041\n"`
	for i := range len(s) {
		if _, _, e := scan.Unquote(s[:i]); e != api.ErrShort {
			t.Errorf("Unquote(%q): %v", s[:i], e)
		}
	}
}

func TestP1_3ReadNumberOfNumber(t *testing.T) {
	r := rand.New(rand.NewSource(4))
	for i := range 5000 {
		n := r.Int63n(2*api.MostNumber+1) - api.MostNumber
		n >>= i % 54
		s, e := scan.Number(n)
		if e != api.OK || s != strconv.FormatInt(n, 10) {
			t.Fatalf("Number(%d) = %q, %v", n, s, e)
		}
		if m, size, e := scan.ReadNumber(s + "."); m != n || size != len(s) || e != api.OK {
			t.Fatalf("ReadNumber(%q) = %d, %d, %v", s, m, size, e)
		}
	}
}
