package glob_test

import (
	"math/rand"
	"strings"
	"testing"

	"outlaw/api"
	"outlaw/glob"
)

// matches decides by trying all lengths for each *.
func matches(p, text string, fold bool) bool {
	if p == "" {
		return text == ""
	}
	if p[0] == '*' {
		for i := range len(text) + 1 {
			if matches(p[1:], text[i:], fold) {
				return true
			}
		}
		return false
	}
	if text == "" {
		return false
	}
	same := p[0] == '?' || p[0] == text[0] || fold && lower(p[0]) == lower(text[0])
	return same && matches(p[1:], text[1:], fold)
}

func lower(c byte) byte {
	if c >= 'A' && c <= 'Z' {
		return c + 32
	}
	return c
}

// words are all strings over an alphabet with at most n bytes.
func words(alphabet string, n int) []string {
	l := []string{""}
	for from := 0; n > 0; n-- {
		last := l[from:]
		from = len(l)
		for _, w := range last {
			for i := range len(alphabet) {
				l = append(l, w+alphabet[i:i+1])
			}
		}
	}
	return l
}

func TestP7_1Check(t *testing.T) {
	for p, want := range map[string]api.Errno{
		"": api.ErrArg, "*": 0, "a": 0, "?": 0, "\xff": 0, " ": 0, strings.Repeat("*", 255): 0, strings.Repeat("a", 255): 0, strings.Repeat("*", 256): api.ErrLong, strings.Repeat("a", 5000): api.ErrLong,
	} {
		if e := glob.Check(p); e != want {
			t.Errorf("Check(%.20q) = %v", p, e)
		}
	}
}

func TestP7_1Match(t *testing.T) {
	for _, x := range []struct {
		p, text     string
		plain, fold bool
	}{
		{"@*:x.org", "@a:x.org", true, true}, {"@*:x.org", "@:x.org", true, true}, {"@*:x.org", "@a:x.orgs", false, false}, {"@*:x.org", "@a:y:x.org", true, true}, {"@*:X.org", "@a:x.ORG", false, true},
		{"a?c", "ac", false, false}, {"a?c", "abc", true, true}, {"?*?", "ab", true, true}, {"?*?", "a", false, false}, {"", "", true, true}, {"", "a", false, false}, {"*", "", true, true}, {"**", "", true, true},
		{"?", "", false, false}, {"?", "\xff", true, true}, {"?", "\u00e9", false, false}, {"??", "\u00e9", true, true}, {"*a*b", "xaybzb", true, true}, {"*a*b", "xaybz", false, false}, {"a*a", "a", false, false}, {"a*a", "aa", true, true},
		{"*ab", "aab", true, true}, {"*aab", "aaab", true, true}, {"*abac", "ababac", true, true}, {"[a]", "a", false, false}, {"[a]", "[a]", true, true}, {"\\*", "*", false, false}, {"\\*", "\\x", true, true}, {"a", "A", false, true}, {"Z", "z", false, true},
		{"@", "`", false, false}, {"[", "{", false, false}, {"\u00c9", "\u00e9", false, false}, {"k", "\u212a", false, false}, {"\x00*\xff", "\x00\n\xff", true, true}, {"a\x00", "a", false, false}, {"x*", "X", false, true},
		{"*?*?*", "a", false, false}, {"*?*?*", "ab", true, true}, {strings.Repeat("a*", 300), strings.Repeat("ab", 400), true, true}, {strings.Repeat("a*", 300) + "c", strings.Repeat("ab", 400), false, false},
		{strings.Repeat("?", 300), strings.Repeat("x", 300), true, true}, {strings.Repeat("?", 300), strings.Repeat("x", 299), false, false},
	} {
		if got := glob.Match(x.p, x.text, false); got != x.plain {
			t.Errorf("Match(%.30q, %.30q) = %v", x.p, x.text, got)
		}
		if got := glob.Match(x.p, x.text, true); got != x.fold {
			t.Errorf("Match(%.30q, %.30q) with Fold = %v", x.p, x.text, got)
		}
	}
}

func TestP7_1MatchAll(t *testing.T) {
	texts := words("aAb*?", 4)
	for _, p := range words("aB*?", 4) {
		for _, text := range texts {
			for _, fold := range []bool{false, true} {
				if got := glob.Match(p, text, fold); got != matches(p, text, fold) {
					t.Fatalf("Match(%q, %q, %v) = %v", p, text, fold, got)
				}
			}
		}
	}
}

func TestP7_1MatchLonger(t *testing.T) {
	r := rand.New(rand.NewSource(11))
	found := 0
	for range 30000 {
		p, text := make([]byte, r.Intn(10)), make([]byte, r.Intn(16))
		for i := range p {
			p[i] = "ab**?"[r.Intn(5)]
		}
		for i := range text {
			text[i] = "aabA"[r.Intn(4)]
		}
		fold := r.Intn(2) == 0
		want := matches(string(p), string(text), fold)
		if want {
			found++
		}
		if got := glob.Match(string(p), string(text), fold); got != want {
			t.Fatalf("Match(%q, %q, %v) = %v", p, text, fold, got)
		}
	}
	if found < 5000 {
		t.Errorf("only %d matches", found)
	}
}

func TestP7_1Bytes(t *testing.T) {
	for c := range 256 {
		b := byte(c)
		if got := glob.Fold(string([]byte{'A', b})); got != string([]byte{'a', lower(b)}) {
			t.Errorf("Fold of the byte %d: %q", c, got)
		}
		for d := range 256 {
			if got := glob.Match(string([]byte{b}), string([]byte{byte(d)}), true); b != '*' && b != '?' && got != (lower(b) == lower(byte(d))) {
				t.Errorf("the bytes %d and %d: %v", c, d, got)
			}
		}
	}
	for c := range 256 {
		b := string([]byte{byte(c)})
		if _, is := glob.Literal("a" + b); is != (b != "*" && b != "?") {
			t.Errorf("Literal with the byte %d: %v", c, is)
		}
		if got := glob.Match("a"+b, "a", false); got != (b == "*") {
			t.Errorf("only * may stand for nothing, but also the byte %d", c)
		}
		if got := glob.Match("a*"+b+"c", "axyc", false); got != (b == "*" || b == "?" || b == "y") {
			t.Errorf("the byte %d behind *: %v", c, got)
		}
	}
	if glob.Fold("") != "" || glob.Fold("A\u00c9\xffZ*?") != "a\u00c9\xffz*?" {
		t.Error("Fold")
	}
}

func TestP7_2Norm(t *testing.T) {
	for p, want := range map[string]string{
		"": "", "a": "a", "*": "*", "***": "*", "?": "?", "??": "??", "*?": "?*", "?*": "?*", "*?*?*": "??*", "?*?": "??*", "a*?b": "a?*b", "**a**b**": "*a*b*", "*?a?*": "?*a?*", "a?b": "a?b",
		"*a?*?\xff": "*a??*\xff", "??**??x": "????*x", "A*B": "A*B",
	} {
		if got := glob.Norm(p); got != want {
			t.Errorf("Norm(%q) = %q, want %q", p, got, want)
		}
	}
}

func TestP7_2LiteralAndLeast(t *testing.T) {
	for p, least := range map[string]int{"": 0, "*": 0, "?": 1, "a": 1, "ab": 2, "a*b?": 3, "***": 0, "?*?*?": 3, "\xff\x00": 2, "@*:x.org": 7, "\u20ac": 3} {
		if got := glob.Least(p); got != least {
			t.Errorf("Least(%q) = %d", p, got)
		}
		literal := strings.Count(p, "*")+strings.Count(p, "?") == 0
		s, is := glob.Literal(p)
		if is != literal || literal && s != p || !literal && s != "" {
			t.Errorf("Literal(%q) = %q, %v", p, s, is)
		}
	}
}

func TestP7_3(t *testing.T) {
	texts := words("aAb*", 4)
	for _, p := range words("aB*?", 5) {
		n := glob.Norm(p)
		if glob.Norm(n) != n || strings.Contains(n, "*?") || strings.Contains(n, "**") || glob.Least(n) != glob.Least(p) {
			t.Fatalf("Norm(%q) = %q", p, n)
		}
		least := -1
		_, literal := glob.Literal(p)
		for _, text := range texts {
			is := glob.Match(p, text, false)
			if is != glob.Match(n, text, false) || glob.Match(p, text, true) != glob.Match(n, text, true) {
				t.Fatalf("%q and %q differ for %q", p, n, text)
			}
			if is && (least < 0 || len(text) < least) {
				least = len(text)
			}
			if literal && (is != (text == p) || glob.Match(p, text, true) != (glob.Fold(text) == glob.Fold(p))) {
				t.Fatalf("the literal %q and %q", p, text)
			}
		}
		if least >= 0 && least != glob.Least(p) {
			t.Fatalf("Least(%q) = %d, but it matches one of %d", p, glob.Least(p), least)
		}
	}
}
