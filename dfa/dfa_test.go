package dfa_test

import (
	"fmt"
	"math"
	"math/rand"
	"slices"
	"sort"
	"strings"
	"testing"

	"outlaw/api"
	"outlaw/dfa"
	"outlaw/glob"
	"outlaw/nfa"
)

// classed is the list of classes in which the bytes of a string have the classes 1, 2, ..
func classed(s string) []int {
	l := make([]int, 256)
	for i := range len(s) {
		l[s[i]] = i + 1
	}
	return l
}

// byHand builds the table as the document describes it.
func byHand(p string, fold bool) api.Dfa {
	n, _ := nfa.New(p, fold)
	var d api.Dfa
	norm := glob.Norm(p)
	if fold {
		norm = glob.Fold(norm)
	}
	own := map[byte]bool{}
	for i := range len(norm) {
		if norm[i] != '*' && norm[i] != '?' {
			own[norm[i]] = true
		}
	}
	reps := []byte{'?'}
	for c := range 256 {
		if own[byte(c)] {
			reps = append(reps, byte(c))
		}
	}
	for c := range 256 {
		b := []byte{byte(c)}
		if fold {
			b = []byte(glob.Fold(string(b)))
		}
		d.Class = append(d.Class, slices.Index(reps[1:], b[0])+1)
	}
	numbers := map[string]int{fmt.Sprint(n.Start()): 0}
	sets := [][]int{n.Start()}
	for i := 0; i < len(sets); i++ {
		var row []int
		for _, c := range reps {
			to := append([]int{}, n.Step(sets[i], c)...)
			key := fmt.Sprint(to)
			if _, is := numbers[key]; !is {
				numbers[key] = len(sets)
				sets = append(sets, to)
			}
			row = append(row, numbers[key])
		}
		d.Next, d.Accept = append(d.Next, row), append(d.Accept, n.Accepts(sets[i]))
	}
	return d
}

func TestP9_1Build(t *testing.T) {
	for _, x := range []struct {
		p    string
		fold bool
		want api.Dfa
	}{
		{"*", false, api.Dfa{Class: classed(""), Next: [][]int{{0}}, Accept: []bool{true}}},
		{"***", true, api.Dfa{Class: classed(""), Next: [][]int{{0}}, Accept: []bool{true}}},
		{"ab", false, api.Dfa{Class: classed("ab"), Next: [][]int{{1, 2, 1}, {1, 1, 1}, {1, 1, 3}, {1, 1, 1}}, Accept: []bool{false, false, false, true}}},
		{"ba", false, api.Dfa{Class: classed("ab"), Next: [][]int{{1, 1, 2}, {1, 1, 1}, {1, 3, 1}, {1, 1, 1}}, Accept: []bool{false, false, false, true}}},
		{"?", false, api.Dfa{Class: classed(""), Next: [][]int{{1}, {2}, {2}}, Accept: []bool{false, true, false}}},
		{"*?", false, api.Dfa{Class: classed(""), Next: [][]int{{1}, {1}}, Accept: []bool{false, true}}},
		{"*x", false, api.Dfa{Class: classed("x"), Next: [][]int{{0, 1}, {0, 1}}, Accept: []bool{false, true}}},
		{"a*", false, api.Dfa{Class: classed("a"), Next: [][]int{{1, 2}, {1, 1}, {2, 2}}, Accept: []bool{false, false, true}}},
	} {
		d, is := dfa.Build(x.p, x.fold, 256)
		if !is || !dfa.Same(d, x.want) {
			t.Errorf("Build(%q) = %v, %v, want %v", x.p, d.Next, is, x.want.Next)
		}
	}
	d, _ := dfa.Build("A", true, 256)
	class := classed("a")
	class['A'] = 1
	if !slices.Equal(d.Class, class) || !slices.Equal(d.Next[0], []int{1, 2}) {
		t.Errorf("with Fold: %v, %v", d.Class, d.Next)
	}
}

// One byte alone has class 1, whatever byte it is.
func TestP9_1BuildBytes(t *testing.T) {
	for c := range 256 {
		b := string([]byte{byte(c)})
		if b == "*" || b == "?" {
			continue
		}
		want := api.Dfa{Class: classed(b), Next: [][]int{{1, 2}, {1, 1}, {1, 1}}, Accept: []bool{false, false, true}}
		if d, is := dfa.Build(b, false, 3); !is || !dfa.Same(d, want) {
			t.Errorf("the byte %d: %v, %v", c, d, is)
		}
		d, _ := dfa.Build(b, true, 3)
		a, _ := dfa.New(b, true, 3)
		for x := range 256 {
			text := string([]byte{byte(x)})
			if want := glob.Match(b, text, true); dfa.Run(d, text) != want || a.Match(text) != want {
				t.Errorf("the bytes %d and %d with Fold", c, x)
			}
		}
	}
}

func TestP9_1BuildByHand(t *testing.T) {
	r := rand.New(rand.NewSource(13))
	for i := range 800 {
		p := make([]byte, 1+r.Intn(9))
		for j := range p {
			p[j] = "abAZ[\xff*?*"[r.Intn(9)]
		}
		fold := i%2 == 0
		want := byHand(string(p), fold)
		got, is := dfa.Build(string(p), fold, 256)
		if !is || !dfa.Same(got, want) {
			t.Fatalf("Build(%q, %v) = %v, %v, want %v", p, fold, got.Next, is, want.Next)
		}
		if dfa.Check(got) != api.OK {
			t.Fatalf("the table of %q is not valid", p)
		}
		states := len(want.Next)
		if _, is := dfa.Build(string(p), fold, states); !is {
			t.Fatalf("%q has %d states", p, states)
		}
		if got, is := dfa.Build(string(p), fold, states-1); is || !dfa.Same(got, api.Dfa{}) {
			t.Fatalf("%q has more than %d states", p, states-1)
		}
	}
}

func TestP9_1BuildRefuses(t *testing.T) {
	for i, x := range []struct {
		p    string
		most int
		want bool
	}{
		{"a", 256, true}, {"a", 3, true}, {"a", 2, false}, {"*", 1, true}, {"*", 0, false}, {"*", -1, false}, {"*", 257, false}, {"*", math.MaxInt, false}, {"*", math.MinInt, false},
		{"", 256, false}, {strings.Repeat("*", 256), 256, false}, {strings.Repeat("*", 255), 1, true}, {strings.Repeat("a", 254), 256, true}, {strings.Repeat("a", 255), 256, false}, {"a" + strings.Repeat("?*", 100), 256, true},
		{"*a" + strings.Repeat("?", 12), 256, false},
	} {
		d, is := dfa.Build(x.p, false, x.most)
		if is != x.want || !is && !dfa.Same(d, api.Dfa{}) {
			t.Errorf("%d: Build(%.20q, %d): %v", i, x.p, x.most, is)
		}
	}
	d, _ := dfa.Build("ab", false, 256)
	d.Next[0][1], d.Class['a'], d.Accept[0] = 3, 0, true
	if e, _ := dfa.Build("ab", false, 256); !dfa.Same(e, byHand("ab", false)) {
		t.Error("a table shares memory with another one")
	}
}

// many is a table with so many states and classes that accepts nothing.
func many(states, classes int) api.Dfa {
	d := api.Dfa{Class: make([]int, 256), Accept: make([]bool, states)}
	for range states {
		d.Next = append(d.Next, make([]int, classes))
	}
	return d
}

func TestP9_1Check(t *testing.T) {
	for i, x := range []struct {
		states, classes int
		do              func(d *api.Dfa)
		want            api.Errno
	}{
		{1, 1, nil, 0}, {256, 1, nil, 0}, {2, 300, nil, 0}, {256, 256, nil, 0}, {257, 1, nil, api.ErrArg}, {0, 0, nil, api.ErrArg}, {1, 0, nil, api.ErrArg}, {2, 0, nil, api.ErrArg},
		{3, 2, func(d *api.Dfa) { d.Class[255] = 1 }, 0}, {3, 2, func(d *api.Dfa) { d.Class[255] = 2 }, api.ErrArg}, {3, 2, func(d *api.Dfa) { d.Class[0] = -1 }, api.ErrArg}, {3, 2, func(d *api.Dfa) { d.Class[7] = math.MaxInt }, api.ErrArg},
		{3, 2, func(d *api.Dfa) { d.Class = d.Class[:255] }, api.ErrArg}, {3, 2, func(d *api.Dfa) { d.Class = append(d.Class, 0) }, api.ErrArg}, {3, 2, func(d *api.Dfa) { d.Class = nil }, api.ErrArg},
		{3, 2, func(d *api.Dfa) { d.Accept = d.Accept[:2] }, api.ErrArg}, {3, 2, func(d *api.Dfa) { d.Accept = append(d.Accept, true) }, api.ErrArg}, {3, 2, func(d *api.Dfa) { d.Accept = nil }, api.ErrArg},
		{3, 2, func(d *api.Dfa) { d.Next = d.Next[:2] }, api.ErrArg}, {3, 2, func(d *api.Dfa) { d.Next = nil }, api.ErrArg}, {3, 2, func(d *api.Dfa) { d.Next[2] = d.Next[2][:1] }, api.ErrArg},
		{3, 2, func(d *api.Dfa) { d.Next[1] = append(d.Next[1], 0) }, api.ErrArg}, {3, 2, func(d *api.Dfa) { d.Next[0] = append(d.Next[0], 0) }, api.ErrArg}, {3, 2, func(d *api.Dfa) { d.Next[2][1] = 2 }, 0},
		{3, 2, func(d *api.Dfa) { d.Next[2][1] = 3 }, api.ErrArg}, {3, 2, func(d *api.Dfa) { d.Next[0][0] = -1 }, api.ErrArg}, {3, 2, func(d *api.Dfa) { d.Next[1] = nil }, api.ErrArg}, {3, 2, func(d *api.Dfa) { d.Next[0] = nil }, api.ErrArg},
		{3, 2, func(d *api.Dfa) { *d = api.Dfa{} }, api.ErrArg},
	} {
		d := many(x.states, x.classes)
		if x.do != nil {
			x.do(&d)
		}
		if len(d.Accept) > 0 {
			d.Accept[0] = true
		}
		if e := dfa.Check(d); e != x.want {
			t.Errorf("%d: Check = %v, want %v", i, e, x.want)
		}
		if got := dfa.Run(d, ""); got != (x.want == api.OK) {
			t.Errorf("%d: Run = %v", i, got)
		}
	}
}

func TestP9_1RunAndSame(t *testing.T) {
	d := many(3, 2)
	d.Class['a'], d.Next[0][1], d.Next[1][0], d.Accept[2] = 1, 1, 2, true
	for text, want := range map[string]bool{"": false, "a": false, "ax": true, "aa": false, "axx": false, "xax": true, "a\xff": true, "axax": false, "axaax": true} {
		if got := dfa.Run(d, text); got != want {
			t.Errorf("Run(%q) = %v", text, got)
		}
	}
	l := []api.Dfa{{}, many(1, 1), many(2, 1), many(1, 2), d}
	for _, do := range []func(d *api.Dfa){
		func(d *api.Dfa) { d.Class[0] = 1 }, func(d *api.Dfa) { d.Next[2][1] = 1 }, func(d *api.Dfa) { d.Accept[0] = true }, func(d *api.Dfa) { d.Class = nil }, func(d *api.Dfa) { d.Accept = nil }, func(d *api.Dfa) { d.Next = d.Next[:1] },
	} {
		e := many(3, 2)
		do(&e)
		l = append(l, e)
	}
	for i, a := range l {
		for j, b := range l {
			c := api.Dfa{Class: slices.Clone(b.Class), Accept: slices.Clone(b.Accept)}
			for _, row := range b.Next {
				c.Next = append(c.Next, slices.Clone(row))
			}
			if got := dfa.Same(a, c); got != (i == j) {
				t.Errorf("Same of %d and %d is %v", i, j, got)
			}
		}
	}
	if !dfa.Same(api.Dfa{Class: []int{}, Next: [][]int{}, Accept: []bool{}}, api.Dfa{}) || !dfa.Same(api.Dfa{Next: [][]int{nil}}, api.Dfa{Next: [][]int{{}}}) {
		t.Error("a nil slice and an empty one are the same")
	}
}

func TestP9_2New(t *testing.T) {
	for i, x := range []struct {
		p      string
		most   int
		want   api.Errno
		states int
	}{
		{"*", 1, 0, 1}, {"ab", 256, 0, 4}, {"ab", 4, 0, 4}, {"ab", 3, 0, 0}, {"ab", 1, 0, 0}, {"*a" + strings.Repeat("?", 12), 256, 0, 0}, {strings.Repeat("a", 254), 256, 0, 256}, {strings.Repeat("a", 255), 256, 0, 0},
		{"", 0, api.ErrArg, 0}, {"a", 0, api.ErrArg, 0}, {"a", -5, api.ErrArg, 0}, {"a", 257, api.ErrArg, 0}, {"", 5, api.ErrArg, 0}, {strings.Repeat("a", 256), 0, api.ErrLong, 0}, {strings.Repeat("a", 256), 9, api.ErrLong, 0},
	} {
		a, e := dfa.New(x.p, false, x.most)
		if e != x.want || (a == nil) != (e != api.OK) || a.States() != x.states || a.Full() != (e == api.OK && x.states == 0) {
			t.Errorf("%d: New(%.20q, %d): %v, %d states, Full %v", i, x.p, x.most, e, a.States(), a.Full())
		}
	}
	for i, a := range []*dfa.Auto{nil, {}} {
		if a.Match("") || a.Match("ab") || a.Full() || a.States() != 0 {
			t.Errorf("%d: an object that New did not return does something", i)
		}
	}
}

// words are all strings over an alphabet with at most n bytes.
func words(alphabet string, n int) []string {
	l := []string{""}
	for from := 0; n > 0; n-- {
		last := l[from:]
		from = len(l)
		for _, w := range last {
			for i := range len(alphabet) {
				l = append(l, w+alphabet[i:i+1])
			}
		}
	}
	return l
}

func TestP9_3WithAndWithoutATable(t *testing.T) {
	texts := words("aAb", 4)
	globs := words("aB*?", 3)[1:]
	sort.Strings(globs)
	for _, p := range append(globs, "*ab*ab", "a*a*a", "*a???", "?*a?*") {
		for _, fold := range []bool{false, true} {
			d, _ := dfa.Build(p, fold, 256)
			tabled, _ := dfa.New(p, fold, 256)
			loose, _ := dfa.New(p, fold, 1)
			if tabled.Full() {
				t.Fatalf("%q has no table", p)
			}
			for _, text := range texts {
				want := glob.Match(p, text, fold)
				if dfa.Run(d, text) != want || tabled.Match(text) != want || loose.Match(text) != want {
					t.Fatalf("%q, %v, %q: %v, %v, %v, want %v", p, fold, text, dfa.Run(d, text), tabled.Match(text), loose.Match(text), want)
				}
			}
		}
	}
}
