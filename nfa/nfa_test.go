package nfa_test

import (
	"math"
	"math/rand"
	"slices"
	"strings"
	"testing"

	"outlaw/api"
	"outlaw/glob"
	"outlaw/nfa"
)

func made(t *testing.T, p string, fold bool) *nfa.Nfa {
	t.Helper()
	n, e := nfa.New(p, fold)
	if e != api.OK || n == nil {
		t.Fatal(p, e)
	}
	return n
}

func TestP8_1New(t *testing.T) {
	for p, want := range map[string]api.Errno{"": api.ErrArg, "*": 0, "a": 0, strings.Repeat("a", 255): 0, strings.Repeat("*", 256): api.ErrLong, strings.Repeat("a", 256): api.ErrLong} {
		n, e := nfa.New(p, false)
		if e != want || (n == nil) != (want != api.OK) {
			t.Errorf("New(%.20q): %v, %v", p, n, e)
		}
	}
}

func TestP8_1Invalid(t *testing.T) {
	for i, n := range []*nfa.Nfa{nil, {}} {
		p, fold := n.Pattern()
		if n.States() != 0 || len(n.Start()) != 0 || len(n.Step([]int{0}, 'a')) != 0 || n.Accepts([]int{0, 1}) || n.Run("") || p != "" || fold {
			t.Errorf("%d: an automaton that New did not return does something", i)
		}
	}
}

func TestP8_1States(t *testing.T) {
	for p, want := range map[string]int{"*": 2, "a": 2, "**": 2, "*x": 3, "*?*": 3, "?*?": 4, "abc": 4, strings.Repeat("a", 255): 256, strings.Repeat("*", 255): 2} {
		if got := made(t, p, false).States(); got != want {
			t.Errorf("States of %.20q: %d", p, got)
		}
	}
}

func TestP8_1StartStepAccepts(t *testing.T) {
	for _, x := range []struct {
		p     string
		fold  bool
		start []int
		from  []int
		c     byte
		to    []int
	}{
		{"*x", false, []int{0, 1}, []int{0, 1}, 'x', []int{0, 1, 2}},
		{"*x", false, []int{0, 1}, []int{0, 1}, 'y', []int{0, 1}},
		{"*x", false, []int{0, 1}, []int{0}, 'x', []int{0, 1}},
		{"*x", false, []int{0, 1}, []int{1}, 'x', []int{2}},
		{"*x", false, []int{0, 1}, []int{2}, 'x', nil},
		{"*x", false, []int{0, 1}, nil, 'x', nil},
		{"a", false, []int{0}, []int{0}, 'a', []int{1}},
		{"a", false, []int{0}, []int{0}, 'A', nil},
		{"a", true, []int{0}, []int{0}, 'A', []int{1}},
		{"A", true, []int{0}, []int{0}, 'a', []int{1}},
		{"A", false, []int{0}, []int{0}, 'a', nil},
		{"A", true, []int{0}, []int{0}, 'A', []int{1}},
		{"[", true, []int{0}, []int{0}, '{', nil},
		{"a*b", false, []int{0}, []int{0}, 'a', []int{1, 2}},
		{"a*b", false, []int{0}, []int{1}, 'b', []int{1, 2}},
		{"a*b", false, []int{0}, []int{2, 1}, 'b', []int{1, 2, 3}},
		{"a*b", false, []int{0}, []int{3, 2, 2, 7, -1, 4, 2, math.MaxInt, math.MinInt}, 'b', []int{3}},
		{"*", false, []int{0, 1}, []int{0}, 0, []int{0, 1}},
		{"*", false, []int{0, 1}, []int{1}, 0, nil},
		{"*?", false, []int{0}, []int{0}, 'q', []int{1, 2}},
		{"?*", false, []int{0}, []int{0, 1, 2}, '*', []int{1, 2}},
		{"???", false, []int{0}, []int{2, 0}, 255, []int{1, 3}},
		{"*a*", false, []int{0, 1}, []int{0, 1}, 'a', []int{0, 1, 2, 3}},
	} {
		n := made(t, x.p, x.fold)
		from := slices.Clone(x.from)
		if got := n.Start(); !slices.Equal(got, x.start) {
			t.Errorf("Start of %q: %v", x.p, got)
		}
		if got := n.Step(from, x.c); !slices.Equal(got, x.to) {
			t.Errorf("%q, Step(%v, %q) = %v, want %v", x.p, x.from, x.c, got, x.to)
		}
		if !slices.Equal(from, x.from) {
			t.Errorf("%q: Step changed its argument", x.p)
		}
	}
	n := made(t, "a*b", false)
	for i, x := range []struct {
		l    []int
		want bool
	}{{nil, false}, {[]int{3}, true}, {[]int{0, 1, 2}, false}, {[]int{9, 3, -1}, true}, {[]int{4}, false}, {[]int{-3}, false}, {[]int{2, 2, 3, 0}, true}} {
		if got := n.Accepts(x.l); got != x.want {
			t.Errorf("%d: Accepts(%v) = %v", i, x.l, got)
		}
	}
	l := n.Start()
	l[0] = 3
	if !slices.Equal(n.Start(), []int{0}) {
		t.Error("Start shares memory")
	}
}

func TestP8_2Pattern(t *testing.T) {
	for p, want := range map[string]string{"*": "*", "**": "*", "A*?B": "A?*B", "abc": "abc", "\xff?*": "\xff?*"} {
		for _, fold := range []bool{false, true} {
			if got, f := made(t, p, fold).Pattern(); got != want || f != fold {
				t.Errorf("Pattern of %q, %v: %q, %v", p, fold, got, f)
			}
		}
	}
}

// words are all strings over an alphabet with at most n bytes.
func words(alphabet string, n int) []string {
	l := []string{""}
	for from := 0; n > 0; n-- {
		last := l[from:]
		from = len(l)
		for _, w := range last {
			for i := range len(alphabet) {
				l = append(l, w+alphabet[i:i+1])
			}
		}
	}
	return l
}

func TestP8_2RunIsMatch(t *testing.T) {
	texts := words("aAb", 5)
	for _, p := range words("aB*?", 4)[1:] {
		for _, fold := range []bool{false, true} {
			n := made(t, p, fold)
			for _, text := range texts {
				got := n.Run(text)
				if got != glob.Match(p, text, fold) {
					t.Fatalf("%q, %v: Run(%q) = %v", p, fold, text, got)
				}
				l := n.Start()
				for i := range len(text) {
					l = n.Step(l, text[i])
				}
				if n.Accepts(l) != got {
					t.Fatalf("%q, %v: the steps of %q lead to %v", p, fold, text, l)
				}
			}
		}
	}
	long := made(t, strings.Repeat("a*", 127)+"b", false)
	if !long.Run(strings.Repeat("ac", 200)+"b") || long.Run(strings.Repeat("ac", 200)) {
		t.Error("a long glob")
	}
}

func TestP8_3MoreStatesReachNoFewer(t *testing.T) {
	r := rand.New(rand.NewSource(12))
	for range 20000 {
		p := make([]byte, 1+r.Intn(8))
		for i := range p {
			p[i] = "abA**?"[r.Intn(6)]
		}
		n := made(t, string(p), r.Intn(2) == 0)
		var less, more []int
		for at := range n.States() + 1 {
			switch r.Intn(3) {
			case 0:
				less, more = append(less, at), append(more, at)
			case 1:
				more = append(more, at)
			}
		}
		r.Shuffle(len(more), func(i, j int) { more[i], more[j] = more[j], more[i] })
		c := "abAx"[r.Intn(4)]
		a, b := n.Step(less, c), n.Step(more, c)
		for _, at := range a {
			if !slices.Contains(b, at) {
				t.Fatalf("%q: %v leads to %v, but %v to %v", p, less, a, more, b)
			}
		}
		for i := 1; i < len(b); i++ {
			if b[i-1] >= b[i] {
				t.Fatalf("%q: %v is no set", p, b)
			}
		}
	}
}
