package canon_test

import (
	"math/rand"
	"slices"
	"sort"
	"strconv"
	"strings"
	"testing"

	"outlaw/api"
	"outlaw/canon"
	"outlaw/json"
)

func null() api.Json          { return api.Json{Kind: api.JsonNull} }
func number(n int64) api.Json { return api.Json{Kind: api.JsonNumber, N: n} }
func text(s string) api.Json  { return api.Json{Kind: api.JsonText, Text: s} }

func list(l ...api.Json) api.Json { return api.Json{Kind: api.JsonList, Items: l} }

// object makes an object of keys and values in turn.
func object(l ...any) api.Json {
	v := api.Json{Kind: api.JsonObject}
	for i := 0; i < len(l); i += 2 {
		v.Keys = append(v.Keys, l[i].(string))
		v.Items = append(v.Items, l[i+1].(api.Json))
	}
	return v
}

func nested(depth int) api.Json {
	v := number(1)
	for range depth {
		v = list(v)
	}
	return v
}

func TestP3_1Canon(t *testing.T) {
	unpaired := api.Json{Kind: api.JsonObject, Keys: []string{"b", "a"}, Items: []api.Json{object("d", null(), "c", number(1))}}
	for i, x := range []struct{ v, want api.Json }{
		{null(), null()}, {list(), list()}, {object(), object()}, {list(number(2), number(1)), list(number(2), number(1))},
		{object("b", number(1), "a", list()), object("a", list(), "b", number(1))},
		{object("b", null(), "", null(), "B", null(), "\xff", null(), "ab", null()), object("", null(), "B", null(), "ab", null(), "b", null(), "\xff", null())},
		{object("a", number(3), "b", number(4), "a", number(2), "a", number(1)), object("a", number(3), "a", number(2), "a", number(1), "b", number(4))},
		{list(object("y", null(), "x", object("2", null(), "1", null()))), list(object("x", object("1", null(), "2", null()), "y", null()))},
		{unpaired, api.Json{Kind: api.JsonObject, Keys: []string{"b", "a"}, Items: []api.Json{object("c", number(1), "d", null())}}},
		{api.Json{Kind: api.JsonList, Keys: []string{"b", "a"}, Items: []api.Json{number(1), number(2)}}, api.Json{Kind: api.JsonList, Keys: []string{"b", "a"}, Items: []api.Json{number(1), number(2)}}},
		{api.Json{Kind: 9, N: 5, Text: "\xff", Keys: []string{"b", "a"}, Items: []api.Json{number(1), number(2)}}, api.Json{Kind: 9, N: 5, Text: "\xff", Keys: []string{"b", "a"}, Items: []api.Json{number(1), number(2)}}},
		{api.Json{Kind: 9, Items: []api.Json{object("b", null(), "a", null())}}, api.Json{Kind: 9, Items: []api.Json{object("a", null(), "b", null())}}},
		{api.Json{Kind: api.JsonObject, N: 4, Text: "t", Keys: []string{"b", "a"}, Items: []api.Json{number(1), number(2)}}, api.Json{Kind: api.JsonObject, N: 4, Text: "t", Keys: []string{"a", "b"}, Items: []api.Json{number(2), number(1)}}},
	} {
		before := json.Copy(x.v)
		if got := canon.Canon(x.v); !json.Same(got, x.want) {
			t.Errorf("%d: Canon = %v, want %v", i, got, x.want)
		}
		if !json.Same(x.v, before) {
			t.Errorf("%d: the argument was changed", i)
		}
	}
}

// Keys that are equal keep their order, however many they are.
func TestP3_1CanonIsStable(t *testing.T) {
	v := api.Json{Kind: api.JsonObject}
	for i := range 200 {
		v.Keys, v.Items = append(v.Keys, strconv.Itoa(i*7%4)), append(v.Items, number(int64(i)))
	}
	c := canon.Canon(v)
	for i := 1; i < 200; i++ {
		if c.Keys[i-1] > c.Keys[i] || c.Keys[i-1] == c.Keys[i] && c.Items[i-1].N > c.Items[i].N {
			t.Fatal("not sorted, or not stable", i)
		}
	}
}

func TestP3_1CanonSharesNothing(t *testing.T) {
	v := object("b", list(number(1)), "a", object("y", null(), "x", null()))
	want := json.Copy(v)
	c := canon.Canon(v)
	c.Keys[0], c.Items[0].Keys[0], c.Items[1].Items[0].N = "q", "q", 9
	c.Items[0] = null()
	if !json.Same(v, want) {
		t.Error("the canonical form shares memory with the value")
	}
	if deep := nested(1 << 18); !json.Same(canon.Canon(deep), deep) {
		t.Error("a deep value")
	}
}

func TestP3_1Bytes(t *testing.T) {
	for i, x := range []struct {
		v api.Json
		s string
		e api.Errno
	}{
		{null(), "null", 0}, {api.Json{Kind: api.JsonBool}, "false", 0}, {api.Json{Kind: api.JsonBool, N: 1}, "true", 0}, {number(0), "0", 0},
		{number(-12), "-12", 0}, {number(api.MostNumber), "9007199254740991", 0}, {text(""), `""`, 0}, {text("a\n\"\\\x01\u20ac/"), "\"a\\n\\\"\\\\\\u0001\u20ac/\"", 0},
		{list(), "[]", 0}, {list(number(2), number(1), list(null())), "[2,1,[null]]", 0}, {object(), "{}", 0}, {object("a", number(1)), `{"a":1}`, 0},
		{object("b", number(1), "a", list()), `{"a":[],"b":1}`, 0}, {object("\n", number(1), "\"", object("d", null(), "c", text("x"))), `{"\n":1,"\"":{"c":"x","d":null}}`, 0},
		{nested(8), "[[[[[[[[1]]]]]]]]", 0},
		{nested(9), "", api.ErrDepth}, {list(make([]api.Json, 400)...), "", api.ErrLong}, {api.Json{}, "", api.ErrKind}, {number(api.MostNumber + 1), "", api.ErrArg},
		{text("\xff"), "", api.ErrText}, {object("a", null(), "a", null()), "", api.ErrTwice}, {list(null(), api.Json{Kind: 2, N: 2}), "", api.ErrArg},
	} {
		if s, e := canon.Bytes(x.v); s != x.s || e != x.e {
			t.Errorf("%d: Bytes = %q, %v, want %q, %v", i, s, e, x.s, x.e)
		}
	}
}

func TestP3_1Compare(t *testing.T) {
	bad, worse := api.Json{}, text("\xff")
	l := []api.Json{text("a"), number(10), number(9), list(), list(null()), null(), object(), object("a", null()), object("b", null(), "a", null()), text("")}
	sort.Slice(l, func(i, j int) bool {
		a, _ := canon.Bytes(l[i])
		b, _ := canon.Bytes(l[j])
		return a < b
	})
	for i, a := range l {
		for j, b := range l {
			want := 0
			if i < j {
				want = -1
			} else if i > j {
				want = 1
			}
			if got := canon.Compare(a, b); got != want {
				t.Errorf("Compare(%v, %v) = %d", a, b, got)
			}
		}
		if canon.Compare(a, bad) != 1 || canon.Compare(worse, a) != -1 {
			t.Errorf("what is not valid comes first")
		}
	}
	if canon.Compare(bad, worse) != 0 || canon.Compare(object("b", null(), "a", null()), object("a", null(), "b", null())) != 0 {
		t.Error("equal bytes")
	}
}

func TestP3_1Is(t *testing.T) {
	for s, want := range map[string]bool{
		"null": true, "-5": true, `"\n"`: true, "[1,2]": true, `{"a":[],"b":1}`: true, "{}": true, `""`: true, "[[[[[[[[1]]]]]]]]": true,
		"": false, " null": false, "null ": false, "[1, 2]": false, `{"b":1,"a":[]}`: false, `{"a":1,"a":1}`: false, `"\u000a"`: false, `"\/"`: false, `"\u0041"`: false,
		"[": false, "x": false, `"\u001F"`: false, `"\u001f"`: true, `{"a" :1}`: false, "[[[[[[[[[1]]]]]]]]]": false, "[1]x": false, `{"a":{"c":1,"b":1}}`: false, "\"\xff\"": false,
		"[" + strings.Repeat("0,", 398) + "0]": true, "[" + strings.Repeat("0,", 399) + "0]": false,
	} {
		if got := canon.Is(s); got != want {
			t.Errorf("Is(%.50q) = %v", s, got)
		}
	}
}

func TestP3_2Get(t *testing.T) {
	inner := list(number(7))
	v := object("b", number(1), "a", inner, "a", number(3), "", null(), "\xff", text("x"))
	for key, want := range map[string]api.Json{"b": number(1), "a": inner, "": null(), "\xff": text("x")} {
		if got, is := canon.Get(v, key); !is || !json.Same(got, want) {
			t.Errorf("Get %q = %v, %v", key, got, is)
		}
	}
	for i, x := range []api.Json{
		v, object(), {}, null(), list(v), text("c"), {Kind: api.JsonObject, Keys: []string{"c"}}, {Kind: api.JsonObject, Keys: []string{"c"}, Items: []api.Json{null(), null()}},
		{Kind: api.JsonList, Keys: []string{"c"}, Items: []api.Json{null()}},
	} {
		if got, is := canon.Get(x, "c"); is || !json.Same(got, api.Json{}) {
			t.Errorf("%d: Get = %v, %v", i, got, is)
		}
	}
	got, _ := canon.Get(v, "a")
	got.Items[0].N = 8
	if inner.Items[0].N != 7 {
		t.Error("Get shares memory with its argument")
	}
}

func TestP3_2Put(t *testing.T) {
	for i, x := range []struct {
		v    api.Json
		key  string
		x    api.Json
		want api.Json
		e    api.Errno
	}{
		{object(), "a", null(), object("a", null()), 0},
		{object("b", number(1), "a", number(2)), "c", object("z", null(), "y", null()), object("a", number(2), "b", number(1), "c", object("y", null(), "z", null())), 0},
		{object("b", number(1), "a", number(2)), "b", list(), object("a", number(2), "b", list()), 0},
		{object("b", object("d", null(), "c", null())), "", null(), object("", null(), "b", object("c", null(), "d", null())), 0},
		{object("a", list(nulls(398)...)), "a", number(1), object("a", number(1)), 0},
		{object("a", nested(7)), "a", nested(7), object("a", nested(7)), 0},
		{object("a", api.Json{}), "\xff", api.Json{Kind: 9}, api.Json{}, api.ErrKind}, {api.Json{}, "a", text("\xff"), api.Json{}, api.ErrKind}, {text("\xff"), "a", api.Json{}, api.Json{}, api.ErrText},
		{nested(9), "a", api.Json{}, api.Json{}, api.ErrDepth}, {object("a", null(), "a", null()), "a", null(), api.Json{}, api.ErrTwice},
		{object(), "a", number(api.MostNumber + 1), api.Json{}, api.ErrArg}, {object(), "\xff", nested(9), api.Json{}, api.ErrDepth}, {list(), "\xff", nested(9), api.Json{}, api.ErrDepth},
		{list(), "\xff", null(), api.Json{}, api.ErrKind}, {null(), "a", null(), api.Json{}, api.ErrKind}, {text("a"), "a", null(), api.Json{}, api.ErrKind},
		{object(), "\xff", null(), api.Json{}, api.ErrText}, {object(), "\xed\xa0\x80", nested(8), api.Json{}, api.ErrText},
		{object(), "a", nested(8), api.Json{}, api.ErrDepth}, {object("a", list(nulls(397)...)), "b", list(), object("a", list(nulls(397)...), "b", list()), 0},
		{object("a", list(nulls(398)...)), "b", null(), api.Json{}, api.ErrLong}, {object("b", list(nulls(398)...)), "a", nested(8), api.Json{}, api.ErrDepth},
	} {
		v, y := json.Copy(x.v), json.Copy(x.x)
		got, e := canon.Put(v, x.key, y)
		if !json.Same(got, x.want) || e != x.e {
			t.Errorf("%d: Put = %.90v, %v, want %v", i, got, e, x.e)
		}
		if !json.Same(v, x.v) || !json.Same(y, x.x) {
			t.Errorf("%d: an argument was changed", i)
		}
	}
	v, x := object("a", list(number(1))), list(number(2))
	got, _ := canon.Put(v, "b", x)
	got.Items[0].Items[0].N, got.Items[1].Items[0].N = 8, 9
	if v.Items[0].Items[0].N != 1 || x.Items[0].N != 2 {
		t.Error("Put shares memory with an argument")
	}
}

// nulls are n values; with 398 of them an object with a list of them has as many as are allowed.
func nulls(n int) []api.Json {
	l := make([]api.Json, n)
	for i := range l {
		l[i] = null()
	}
	return l
}

func TestP3_2Drop(t *testing.T) {
	unpaired := api.Json{Kind: api.JsonObject, Keys: []string{"a", "b"}, Items: []api.Json{null()}}
	keyed := api.Json{Kind: api.JsonList, Keys: []string{"a"}, Items: []api.Json{null()}}
	for i, x := range []struct{ v, want api.Json }{
		{object("a", null()), object()}, {object("b", null(), "a", number(1), "c", list(), "a", number(2)), object("b", null(), "c", list())},
		{object("c", null(), "b", null()), object("c", null(), "b", null())}, {object(), object()}, {list(object("a", null())), list(object("a", null()))},
		{object("x", object("a", null())), object("x", object("a", null()))}, {unpaired, unpaired}, {keyed, keyed}, {api.Json{}, api.Json{}}, {text("a"), text("a")},
		{api.Json{Kind: api.JsonObject, N: 3, Text: "t", Keys: []string{"a"}, Items: []api.Json{{}}}, api.Json{Kind: api.JsonObject, N: 3, Text: "t"}},
	} {
		v := json.Copy(x.v)
		if got := canon.Drop(v, "a"); !json.Same(got, x.want) {
			t.Errorf("%d: Drop = %v", i, got)
		}
		if !json.Same(v, x.v) {
			t.Errorf("%d: the argument was changed", i)
		}
	}
	v := object("a", null(), "b", list(number(1)))
	got := canon.Drop(v, "a")
	got.Items[0].Items[0].N, got.Keys[0] = 2, "c"
	if v.Items[1].Items[0].N != 1 || v.Keys[1] != "b" {
		t.Error("Drop shares memory with its argument")
	}
}

// value makes a valid value; the keys of its objects are in no order.
func value(r *rand.Rand, depth int) api.Json {
	switch n := r.Intn(7); {
	case n == 0:
		return null()
	case n == 1:
		return api.Json{Kind: api.JsonBool, N: r.Int63n(2)}
	case n == 2:
		return number(r.Int63n(30) - 15)
	case n == 3 || depth == 0:
		return text([]string{"", "a", "\"\\\n\x01", "\u20ac\U0001f600", "true"}[r.Intn(5)])
	case n == 4:
		l := list()
		for range r.Intn(4) {
			l.Items = append(l.Items, value(r, depth-1))
		}
		return l
	}
	v := object()
	for _, i := range r.Perm(6)[:r.Intn(5)] {
		v.Keys, v.Items = append(v.Keys, []string{"", "a", "b", "aa", "\n", "\u20ac"}[i]), append(v.Items, value(r, depth-1))
	}
	return v
}

// shuffled puts the keys of all objects in another order.
func shuffled(r *rand.Rand, v api.Json) api.Json {
	v = json.Copy(v)
	for i := range v.Items {
		v.Items[i] = shuffled(r, v.Items[i])
	}
	if v.Kind == api.JsonObject {
		r.Shuffle(len(v.Keys), func(i, j int) {
			v.Keys[i], v.Keys[j] = v.Keys[j], v.Keys[i]
			v.Items[i], v.Items[j] = v.Items[j], v.Items[i]
		})
	}
	return v
}

func TestP3_3ParsedBytesAreTheForm(t *testing.T) {
	r := rand.New(rand.NewSource(7))
	bySame := map[string]api.Json{}
	for range 3000 {
		v := value(r, 4)
		s, e := canon.Bytes(v)
		if e != api.OK {
			t.Fatal(e)
		}
		back, e := json.Parse(s)
		if e != api.OK || !json.Same(back, canon.Canon(v)) || !canon.Is(s) {
			t.Fatalf("%q is read as %v, %v", s, back, e)
		}
		if !json.Same(canon.Canon(back), back) {
			t.Fatal("the form of the form is another one")
		}
		w := shuffled(r, v)
		if again, _ := canon.Bytes(w); again != s || canon.Compare(v, w) != 0 || !json.Same(canon.Canon(w), back) {
			t.Fatalf("the order of keys changes %q to %q", s, again)
		}
		if other, is := bySame[s]; is && !json.Same(other, back) {
			t.Fatalf("two values have the bytes %q", s)
		}
		bySame[s] = back
		if !slices.IsSorted(back.Keys) {
			t.Fatalf("%q is not sorted", s)
		}
	}
}
