package index_test

import (
	"math"
	"math/rand"
	"slices"
	"strconv"
	"strings"
	"testing"

	"outlaw/api"
	"outlaw/glob"
	"outlaw/index"
)

func TestP10_1Example(t *testing.T) {
	x := index.New(256)
	for _, g := range []api.Glob{{ID: 3, Pattern: "a*"}, {ID: 1, Pattern: "ab"}, {ID: 2, Pattern: "b"}} {
		if e := x.Put(g.ID, g.Pattern, g.Fold); e != api.OK {
			t.Error(g, e)
		}
	}
	if got := x.Match("ab"); !slices.Equal(got, []int{1, 3}) {
		t.Error(got)
	}
	if got := x.Match("c"); len(got) != 0 {
		t.Error(got)
	}
}

func TestP10_1Invalid(t *testing.T) {
	for i, x := range []*index.Index{nil, {}} {
		if x.Put(-1, "", false) != api.ErrNil || x.Put(1, "a", false) != api.ErrNil || x.Drop(0) != api.ErrNil || len(x.Match("a")) != 0 || x.Has(0) || x.Len() != 0 || len(x.Globs()) != 0 {
			t.Errorf("%d: an index that New did not return does something", i)
		}
	}
}

func TestP10_1PutAndDrop(t *testing.T) {
	x := index.New(256)
	long := strings.Repeat("a", 256)
	for i, c := range []struct {
		drop bool
		id   int
		p    string
		want api.Errno
	}{
		{false, -1, "", api.ErrArg}, {false, math.MinInt, "a", api.ErrArg}, {false, 0, "", api.ErrArg}, {false, 0, long, api.ErrLong}, {false, 0, "a", 0}, {false, 0, long, api.ErrTwice}, {false, 0, "a", api.ErrTwice}, {false, 0, "", api.ErrTwice},
		{false, math.MaxInt, "a", 0}, {false, -1, long, api.ErrArg}, {true, -1, "", api.ErrNone}, {true, 5, "", api.ErrNone}, {true, 0, "", 0}, {true, 0, "", api.ErrNone}, {false, 0, "b*", 0}, {true, 0, "", 0}, {true, math.MaxInt, "", 0}, {true, math.MaxInt, "", api.ErrNone},
	} {
		var e api.Errno
		if c.drop {
			e = x.Drop(c.id)
		} else {
			e = x.Put(c.id, c.p, i%2 == 0)
		}
		if e != c.want {
			t.Errorf("%d: %v, want %v", i, e, c.want)
		}
	}
	if x.Len() != 0 || x.Has(0) || len(x.Match("a")) != 0 {
		t.Error("something is left")
	}
}

func TestP10_1Full(t *testing.T) {
	for _, p := range []string{"a", "a*"} {
		x := index.New(2)
		for i := range api.MostGlobs {
			if e := x.Put(i*3, p, i%2 == 0); e != api.OK {
				t.Fatal(i, e)
			}
		}
		if x.Put(1, p, false) != api.ErrFull || x.Put(0, p, false) != api.ErrTwice || x.Put(-1, p, false) != api.ErrArg || x.Put(1, "", false) != api.ErrArg || x.Put(1, strings.Repeat("x", 256), false) != api.ErrLong {
			t.Error("errors of a full index")
		}
		if x.Len() != 200 || len(x.Match("a")) != 200 || len(x.Match("A")) != 100 || x.Has(1) {
			t.Error(x.Len(), len(x.Match("a")), len(x.Match("A")))
		}
		if x.Drop(3) != api.OK || x.Put(1, p, false) != api.OK || x.Put(3, p, false) != api.ErrFull {
			t.Error("there is room for one again")
		}
	}
}

// naive matches as the document says, glob by glob.
func naive(globs map[int]api.Glob, text string) []int {
	var l []int
	for id, g := range globs {
		if glob.Match(g.Pattern, text, g.Fold) {
			l = append(l, id)
		}
	}
	slices.Sort(l)
	return l
}

func TestP10_2AndP10_3LikeGlobByGlob(t *testing.T) {
	r := rand.New(rand.NewSource(14))
	texts := []string{"", "a", "A", "ab", "aB", "AB", "b", "ba", "abab", "*", "a*", "\xff", "aaaaaaaaaaab"}
	patterns := []string{"a", "A", "ab", "AB", "aB", "*", "a*", "*b", "?", "?B", "*a*b*", "\xff", "b", "*a??????????b", "A*a*A"}
	for _, most := range []int{math.MinInt, -1, 0, 1, 2, 7, 256, 257, math.MaxInt} {
		x, globs := index.New(most), map[int]api.Glob{}
		for range 400 {
			id := r.Intn(30)
			g := api.Glob{ID: id, Pattern: patterns[r.Intn(len(patterns))], Fold: r.Intn(2) == 0}
			_, has := globs[id]
			if r.Intn(2) == 0 {
				if e := x.Put(id, g.Pattern, g.Fold); (e == api.ErrTwice) != has {
					t.Fatal(e)
				}
				if !has {
					globs[id] = g
				}
			} else {
				if e := x.Drop(id); (e == api.OK) != has {
					t.Fatal(e)
				}
				delete(globs, id)
			}
			for _, text := range texts {
				if got := x.Match(text); !slices.Equal(got, naive(globs, text)) {
					t.Fatalf("Match(%q) = %v, want %v of %v", text, got, naive(globs, text), globs)
				}
			}
			if x.Len() != len(globs) {
				t.Fatal(x.Len())
			}
		}
	}
}

func TestP10_2Globs(t *testing.T) {
	x := index.New(3)
	if len(x.Globs()) != 0 || x.Len() != 0 || x.Has(0) {
		t.Error("a new index is empty")
	}
	put := []api.Glob{{ID: 9, Pattern: "**?*", Fold: true}, {ID: 0, Pattern: "AB", Fold: true}, {ID: 4, Pattern: "AB"}, {ID: 100, Pattern: "x*"}}
	for _, g := range put {
		x.Put(g.ID, g.Pattern, g.Fold)
	}
	want := []api.Glob{put[1], put[2], put[0], put[3]}
	l := x.Globs()
	if !slices.Equal(l, want) {
		t.Errorf("Globs = %v", l)
	}
	l[0].Pattern = "changed"
	m := x.Match("ab")
	m[0] = 77
	if !slices.Equal(x.Globs(), want) || !slices.Equal(x.Match("ab"), []int{0, 9}) {
		t.Error("a result shares memory")
	}
	for id := range 12 {
		if got := x.Has(id); got != (id == 9 || id == 0 || id == 4) {
			t.Errorf("Has(%d) = %v", id, got)
		}
	}
}

// What Match returned is not changed by what comes later.
func TestP10_2MatchIsNew(t *testing.T) {
	x := index.New(3)
	for i := range 5 {
		x.Put(i, "a", false)
	}
	m := x.Match("a")
	x.Drop(1)
	x.Drop(0)
	x.Put(9, "a", false)
	if !slices.Equal(m, []int{0, 1, 2, 3, 4}) || !slices.Equal(x.Match("a"), []int{2, 3, 4, 9}) {
		t.Error(m, x.Match("a"))
	}
}

func TestP10_3AsIfItHadNeverBeenThere(t *testing.T) {
	a, b := index.New(256), index.New(256)
	for i := range 40 {
		p := strings.Repeat("x", i%4) + []string{"*", "", "y", "?"}[i%4] + "z"
		a.Put(i, p, i%3 == 0)
		if i%2 == 0 {
			b.Put(i, p, i%3 == 0)
		}
	}
	for i := 1; i < 40; i += 2 {
		a.Drop(i)
	}
	for i := range 40 {
		text := strings.Repeat("X", i%2) + strings.Repeat("x", i%3) + strconv.Itoa(i)[:i%2] + "z"
		if !slices.Equal(a.Match(text), b.Match(text)) {
			t.Errorf("%q: %v and %v", text, a.Match(text), b.Match(text))
		}
	}
	if !slices.Equal(a.Globs(), b.Globs()) {
		t.Error(a.Globs())
	}
}
