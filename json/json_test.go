package json_test

import (
	stdjson "encoding/json"
	"math"
	"math/rand"
	"reflect"
	"strings"
	"testing"

	"outlaw/api"
	"outlaw/json"
)

func null() api.Json           { return api.Json{Kind: api.JsonNull} }
func boolean(n int64) api.Json { return api.Json{Kind: api.JsonBool, N: n} }
func number(n int64) api.Json  { return api.Json{Kind: api.JsonNumber, N: n} }
func text(s string) api.Json   { return api.Json{Kind: api.JsonText, Text: s} }

func list(l ...api.Json) api.Json { return api.Json{Kind: api.JsonList, Items: l} }

// object makes an object of keys and values in turn.
func object(l ...any) api.Json {
	v := api.Json{Kind: api.JsonObject}
	for i := 0; i < len(l); i += 2 {
		v.Keys = append(v.Keys, l[i].(string))
		v.Items = append(v.Items, l[i+1].(api.Json))
	}
	return v
}

// nested is a value of that depth.
func nested(depth int) api.Json {
	v := number(1)
	for range depth {
		v = list(v)
	}
	return v
}

// wide is a list with n values, itself included.
func wide(n int) api.Json {
	return list(make([]api.Json, n-1)...)
}

func fill(v, x api.Json) api.Json {
	for i := range v.Items {
		v.Items[i] = x
	}
	return v
}

func TestP2_1Check(t *testing.T) {
	long := strings.Repeat("x", 10000)
	for i, x := range []struct {
		v api.Json
		e api.Errno
	}{
		{null(), api.OK}, {boolean(0), api.OK}, {boolean(1), api.OK}, {number(0), api.OK}, {number(-5), api.OK},
		{number(api.MostNumber), api.OK}, {number(-api.MostNumber), api.OK}, {text(""), api.OK}, {text("\u20ac\x00" + long), api.OK},
		{list(), api.OK}, {list(null(), list()), api.OK}, {object(), api.OK}, {object("", null(), "a", list()), api.OK},
		{nested(8), api.OK}, {nested(9), api.ErrDepth}, {nested(1000), api.ErrDepth}, {fill(wide(400), null()), api.OK},
		{fill(wide(401), null()), api.ErrLong}, {wide(401), api.ErrLong}, {wide(400), api.ErrKind},
		{api.Json{}, api.ErrKind}, {api.Json{Kind: -1}, api.ErrKind}, {api.Json{Kind: 7}, api.ErrKind}, {api.Json{Kind: math.MaxInt}, api.ErrKind},
		{api.Json{Kind: math.MinInt, Text: "\xff"}, api.ErrKind},
		{api.Json{Kind: api.JsonNull, N: 1}, api.ErrArg}, {api.Json{Kind: api.JsonNull, Text: "a"}, api.ErrArg},
		{api.Json{Kind: api.JsonNull, Keys: []string{"a"}}, api.ErrArg}, {api.Json{Kind: api.JsonNull, Items: []api.Json{null()}}, api.ErrArg},
		{boolean(2), api.ErrArg}, {boolean(-1), api.ErrArg}, {api.Json{Kind: api.JsonBool, Text: "a"}, api.ErrArg},
		{api.Json{Kind: api.JsonBool, Keys: []string{"a"}}, api.ErrArg}, {api.Json{Kind: api.JsonBool, Items: []api.Json{null()}}, api.ErrArg},
		{number(api.MostNumber + 1), api.ErrArg}, {number(-api.MostNumber - 1), api.ErrArg}, {number(math.MinInt64), api.ErrArg},
		{number(math.MaxInt64), api.ErrArg}, {api.Json{Kind: api.JsonNumber, Text: "1"}, api.ErrArg},
		{api.Json{Kind: api.JsonNumber, Keys: []string{"a"}}, api.ErrArg}, {api.Json{Kind: api.JsonNumber, Items: []api.Json{null()}}, api.ErrArg},
		{api.Json{Kind: api.JsonText, N: 1}, api.ErrArg}, {api.Json{Kind: api.JsonText, N: -1}, api.ErrArg}, {api.Json{Kind: api.JsonText, Keys: []string{"a"}}, api.ErrArg},
		{api.Json{Kind: api.JsonText, Items: []api.Json{null()}}, api.ErrArg}, {text("\xff"), api.ErrText}, {text("a\xed\xa0\x80"), api.ErrText},
		{api.Json{Kind: api.JsonList, N: 1}, api.ErrArg}, {api.Json{Kind: api.JsonList, Text: "a"}, api.ErrArg},
		{api.Json{Kind: api.JsonList, Keys: []string{"a"}}, api.ErrArg}, {api.Json{Kind: api.JsonList, Keys: []string{"a"}, Items: []api.Json{null()}}, api.ErrArg},
		{api.Json{Kind: api.JsonObject, N: 1}, api.ErrArg}, {api.Json{Kind: api.JsonObject, Text: "a"}, api.ErrArg},
		{api.Json{Kind: api.JsonObject, Keys: []string{"a"}}, api.ErrArg}, {api.Json{Kind: api.JsonObject, Items: []api.Json{null()}}, api.ErrArg},
		{api.Json{Kind: api.JsonObject, Keys: []string{"a", "b"}, Items: []api.Json{null()}}, api.ErrArg},
		{object("\xff", null()), api.ErrText}, {object("a", null(), "a", null()), api.ErrTwice}, {object("", null(), "b", null(), "", null()), api.ErrTwice},
	} {
		if e := json.Check(x.v); e != x.e {
			t.Errorf("%d: Check(%.80v) = %v, want %v", i, x.v, e, x.e)
		}
	}
}

// The depth comes before the number, both before everything else; a value comes before its Items; the kinds of faults have an order.
func TestP2_1CheckOrder(t *testing.T) {
	deepAndWide := list(fill(wide(500), null()), nested(9))
	for i, x := range []struct {
		v api.Json
		e api.Errno
	}{
		{deepAndWide, api.ErrDepth},
		{list(api.Json{}, nested(8)), api.ErrDepth},
		{list(api.Json{}, fill(wide(400), null())), api.ErrLong},
		{list(null(), api.Json{}, text("\xff")), api.ErrKind},
		{list(text("\xff"), api.Json{}), api.ErrText},
		{list(list(text("\xff")), api.Json{}), api.ErrText},
		{list(list(null()), boolean(2), text("\xff")), api.ErrArg},
		{object("a", text("\xff"), "a", api.Json{}), api.ErrTwice},
		{object("\xff", api.Json{}), api.ErrText},
		{object("a", null(), "a", null(), "\xff", null()), api.ErrText},
		{object("a", api.Json{}, "b", boolean(9)), api.ErrKind},
		{api.Json{Kind: api.JsonText, N: 1, Text: "\xff"}, api.ErrArg},
		{api.Json{Kind: api.JsonObject, Keys: []string{"\xff"}}, api.ErrArg},
		{api.Json{Kind: api.JsonObject, Keys: []string{"a", "a"}}, api.ErrArg},
		{api.Json{Kind: 9, N: 1, Text: "\xff", Keys: []string{"a"}}, api.ErrKind},
		{api.Json{Kind: api.JsonNull, Items: []api.Json{{}}}, api.ErrArg},
		{api.Json{Kind: api.JsonText, Items: []api.Json{nested(20)}}, api.ErrArg},
		{api.Json{Kind: api.JsonNull, Items: wide(400).Items}, api.ErrArg},
		{api.Json{Kind: api.JsonNull, Items: wide(401).Items}, api.ErrLong},
		{api.Json{Kind: 0, Items: wide(401).Items}, api.ErrLong},
	} {
		if e := json.Check(x.v); e != x.e {
			t.Errorf("%d: Check = %v, want %v", i, e, x.e)
		}
	}
}

func TestP2_1DepthCount(t *testing.T) {
	hidden := api.Json{Kind: api.JsonText, Items: []api.Json{list(null())}}
	for i, x := range []struct {
		v            api.Json
		depth, count int
	}{
		{null(), 0, 1}, {api.Json{}, 0, 1}, {list(), 1, 1}, {object(), 1, 1}, {list(null(), null()), 1, 3},
		{list(list(), number(1), list(object("a", list()))), 4, 6}, {object("a", null(), "b", list(text("x"))), 2, 4},
		{nested(8), 8, 9}, {nested(300), 300, 301}, {wide(1000), 1, 1000}, {list(nested(3), nested(5), nested(2)), 6, 14},
		{hidden, 0, 3}, {list(hidden), 1, 4}, {api.Json{Kind: 77, Items: []api.Json{nested(2)}}, 0, 4},
		{api.Json{Kind: api.JsonObject, Keys: []string{"a", "b", "c"}}, 1, 1}, {api.Json{Kind: api.JsonObject, Items: []api.Json{nested(4)}}, 5, 6},
	} {
		if d, n := json.Depth(x.v), json.Count(x.v); d != x.depth || n != x.count {
			t.Errorf("%d: depth %d, count %d, want %d, %d", i, d, n, x.depth, x.count)
		}
	}
}

// A value may be so deep that no stack would hold a call for each level.
func TestP2_1VeryDeep(t *testing.T) {
	const levels = 1 << 18
	v := nested(levels)
	if json.Depth(v) != levels || json.Count(v) != levels+1 || json.Check(v) != api.ErrDepth {
		t.Error("Depth, Count or Check of a deep value")
	}
	if c := json.Copy(v); !json.Same(c, v) || json.Same(c, list(v)) {
		t.Error("Copy or Same of a deep value")
	}
}

func TestP2_1Same(t *testing.T) {
	l := []api.Json{
		{}, null(), boolean(0), boolean(1), number(0), number(1), text(""), text("a"), list(), list(null()), list(null(), null()),
		list(list()), object(), object("a", null()), object("b", null()), object("a", number(1)), object("a", null(), "b", null()),
		object("b", null(), "a", null()), {Kind: api.JsonObject, Keys: []string{"a"}}, {Kind: api.JsonObject, Items: []api.Json{null()}},
		{Kind: 9}, {Kind: 9, N: 1}, {Kind: 9, Text: "x"}, {Kind: 9, Keys: []string{"x"}}, {Kind: 9, Items: []api.Json{{}}}, list(text("\xff")),
		list(number(1), number(2)), list(number(2), number(1)), list(list(number(1)), number(3)), list(list(number(1), number(3))),
	}
	for i, a := range l {
		for j, b := range l {
			if got := json.Same(a, json.Copy(b)); got != (i == j) {
				t.Errorf("Same of %d and %d is %v", i, j, got)
			}
		}
	}
	if !json.Same(api.Json{Kind: 5, Keys: []string{}, Items: []api.Json{}}, list()) {
		t.Error("a nil slice and an empty one are the same")
	}
}

func TestP2_1CopySharesNothing(t *testing.T) {
	spareKeys, spareItems := make([]string, 1, 9), make([]api.Json, 1, 9)
	none := make([]api.Json, 0, 5)
	spareItems[0] = api.Json{Kind: 5, Items: none, Keys: make([]string, 0, 3)}
	v := api.Json{Kind: 77, N: -3, Text: "\xff", Keys: spareKeys, Items: spareItems}
	want := api.Json{Kind: 77, N: -3, Text: "\xff", Keys: []string{""}, Items: []api.Json{{Kind: 5}}}
	c := json.Copy(v)
	if !json.Same(c, want) {
		t.Fatalf("Copy = %v", c)
	}
	c.Keys[0], c.Items[0].Text = "changed", "changed"
	_ = append(c.Keys, "spare")
	_ = append(c.Items, text("spare"))
	_ = append(c.Items[0].Items, text("spare"))
	_ = append(c.Items[0].Keys, "spare")
	if !json.Same(v, want) || spareKeys[:2][1] != "" || !json.Same(spareItems[:2][1], api.Json{}) || !json.Same(none[:1][0], api.Json{}) || spareItems[0].Keys[:1][0] != "" {
		t.Error("the copy shares memory with the value")
	}
}

type parsed struct {
	s     string
	depth int
	v     api.Json
	size  int
	e     api.Errno
}

func checkRead(t *testing.T, l []parsed) {
	t.Helper()
	for _, x := range l {
		v, size, e := json.Read(x.s, x.depth)
		if !json.Same(v, x.v) || size != x.size || e != x.e {
			t.Errorf("Read(%.60q, %d) = %v, %d, %v, want %v, %d, %v", x.s, x.depth, v, size, e, x.v, x.size, x.e)
		}
	}
}

func TestP2_2Reads(t *testing.T) {
	checkRead(t, []parsed{
		{"null", 0, null(), 4, 0}, {"true", 0, boolean(1), 4, 0}, {"false", 0, boolean(0), 5, 0}, {"truex", 0, boolean(1), 4, 0}, {"nullnull", 3, null(), 4, 0},
		{"0", 0, number(0), 1, 0}, {"-12,", 0, number(-12), 3, 0}, {"9 ", 0, number(9), 1, 0}, {"5]", 8, number(5), 1, 0},
		{"1", 0, number(1), 1, 0}, {"2", 0, number(2), 1, 0}, {"3", 0, number(3), 1, 0}, {"4", 0, number(4), 1, 0}, {"6", 0, number(6), 1, 0}, {"7", 0, number(7), 1, 0}, {"8", 0, number(8), 1, 0},
		{`"a\u0041"x`, 0, text("aA"), 9, 0}, {`""`, 0, text(""), 2, 0},
		{"[]", 1, list(), 2, 0}, {"[ \t\r\n]x", 1, list(), 6, 0}, {"[1]", 1, list(number(1)), 3, 0}, {"[ 1 , null ] ", 1, list(number(1), null()), 12, 0},
		{"[[]]", 2, list(list()), 4, 0}, {"[[],[1,[]],{}]", 3, list(list(), list(number(1), list()), object()), 14, 0},
		{"{}", 1, object(), 2, 0}, {"{ }", 1, object(), 3, 0}, {`{"a":1}`, 1, object("a", number(1)), 7, 0},
		{`{"b":1,"a":{"b":2}}`, 2, object("b", number(1), "a", object("b", number(2))), 19, 0},
		{"{ \"a\" : \"x\" ,\n\"\"\t:\r[ ] }:", 2, object("a", text("x"), "", list()), 24, 0},
		{`{"a":[1,true]}`, 2, object("a", list(number(1), boolean(1))), 14, 0},
	})
	v, size, e := json.Read(strings.Repeat("[", 8)+"1"+strings.Repeat("]", 8), 8)
	if !json.Same(v, nested(8)) || size != 17 || e != api.OK {
		t.Error(v, size, e)
	}
	v, size, e = json.Read("["+strings.Repeat("0,", 5000)+"0]", 1)
	if len(v.Items) != 5001 || size != 10003 || e != api.OK {
		t.Error("the number of values must not matter", size, e)
	}
}

func TestP2_2Refuses(t *testing.T) {
	short, bad, depth, twice, text, long := api.ErrShort, api.ErrBad, api.ErrDepth, api.ErrTwice, api.ErrText, api.ErrLong
	for s, want := range map[string]api.Errno{
		"": short, "t": short, "tr": short, "tru": short, "f": short, "fals": short, "n": short, "nul": short, "-": short, `"`: short, `"a`: short,
		"[": short, "[ ": short, "[1": short, "[1 ": short, "[1,": short, "[1, ": short, "[[": short, "[[]": short, "[tru": short, "[-": short, `["`: short,
		"{": short, "{ ": short, `{"`: short, `{"a`: short, `{"a"`: short, `{"a" `: short, `{"a":`: short, `{"a": `: short, `{"a":1`: short, `{"a":1 `: short,
		`{"a":1,`: short, `{"a":1, `: short, `{"a":1,"`: short, `{"a":nul`: short, `{"a":[`: short, `{"a":{"a`: short,
		" 1": bad, "x": bad, "]": bad, "}": bad, ",": bad, ":": bad, "'": bad, "+1": bad, "T": bad, "\xff": bad, "\x00": bad, "/": bad, ".": bad,
		"tx": bad, "trux": bad, "t ": bad, "tru ": bad, "falsx": bad, "nulL": bad, "nil": bad, "f[": bad, "-x": bad, "01": bad, "-0": bad, "\"\x1f": bad, `"\x`: bad,
		"[,": bad, "[1 2": bad, "[1}": bad, "[1:": bad, "[1,]": bad, "[1,,": bad, "[}": bad, "[x": bad, "[1x": bad, "[01]": bad, "[1, ]": bad, "[\v]": bad,
		"{]": bad, "{,": bad, "{1": bad, "{a": bad, "{:": bad, "{null": bad, `{"a"}`: bad, `{"a",`: bad, `{"a"1`: bad, `{"a" 1`: bad, `{"a"::`: bad, `{"a":}`: bad,
		`{"a":,`: bad, `{"a":1]`: bad, `{"a":1:`: bad, `{"a":1 "b"`: bad, `{"a":1,}`: bad, `{"a":1,,`: bad, `{"a":1,1`: bad, `{"a":1, }`: bad, `{"a":tx`: bad, `{"a\x`: bad,
		"9007199254740992": long, "[9007199254740992": long, `{"a":-9007199254740992`: long, "\"\xff": text, "[\"\xff": text, "{\"\xc3": text, "{\"a\":\"\\udc00": text,
		`{"a":1,"a"`: twice, `{"a":1,"a"x`: twice, `{"a":1,"b":2,"a":3}`: twice, `{"a":1,"\u0061":2}`: twice, `{"":1, "" `: twice, `[{"x":{},"x"`: twice,
		strings.Repeat("[", 9): depth, strings.Repeat("[", 8) + "{": depth, strings.Repeat(`{"":`, 8) + "[": depth, strings.Repeat("[", 8) + "1,[": depth,
		`[1,` + strings.Repeat("[", 8): depth, strings.Repeat("[", 8): short, strings.Repeat("[", 100000): depth,
	} {
		checkRead(t, []parsed{{s: s, depth: api.MostDepth, e: want}})
	}
}

func TestP2_2Depth(t *testing.T) {
	checkRead(t, []parsed{
		{s: "1", depth: -1, e: api.ErrArg}, {s: "1", depth: 9, e: api.ErrArg}, {s: "", depth: -1, e: api.ErrArg}, {s: "", depth: math.MaxInt, e: api.ErrArg},
		{s: "1", depth: math.MinInt, e: api.ErrArg}, {s: "", depth: 0, e: api.ErrShort}, {s: "1", depth: 0, v: number(1), size: 1}, {s: "1", depth: 8, v: number(1), size: 1},
		{s: "[]", depth: 0, e: api.ErrDepth}, {s: "[", depth: 0, e: api.ErrDepth}, {s: "{}", depth: 0, e: api.ErrDepth}, {s: "{x", depth: 0, e: api.ErrDepth},
		{s: "[[]]", depth: 1, e: api.ErrDepth}, {s: "[1,[x", depth: 1, e: api.ErrDepth}, {s: "[1,x[", depth: 1, e: api.ErrBad}, {s: `{"a":{`, depth: 1, e: api.ErrDepth},
		{s: `{"a":{}}`, depth: 2, v: object("a", object()), size: 8}, {s: `{"a":[[]]}`, depth: 2, e: api.ErrDepth}, {s: `{"a":1,"a":[[`, depth: 1, e: api.ErrTwice},
		{s: `[[1],[2],[[3]]]`, depth: 2, e: api.ErrDepth}, {s: `[[1],[2],[3]]`, depth: 2, v: list(list(number(1)), list(number(2)), list(number(3))), size: 13},
	})
}

func TestP2_3Parse(t *testing.T) {
	nodes := func(n int) string { return "[" + strings.Repeat("0,", n-2) + "0]" }
	for _, x := range []struct {
		s string
		v api.Json
		e api.Errno
	}{
		{`{"a":[1,true]}`, object("a", list(number(1), boolean(1))), 0}, {" \t\r\n1 \t\r\n", number(1), 0}, {"null", null(), 0}, {"[] ", list(), 0},
		{strings.Repeat("[", 8) + "1" + strings.Repeat("]", 8), nested(8), 0}, {nodes(400), fill(wide(400), number(0)), 0},
		{"", api.Json{}, api.ErrShort}, {"  ", api.Json{}, api.ErrShort}, {" [1", api.Json{}, api.ErrShort}, {" tru", api.Json{}, api.ErrShort},
		{"1 2", api.Json{}, api.ErrBad}, {"1x", api.Json{}, api.ErrBad}, {"[] ,", api.Json{}, api.ErrBad}, {"nullnull", api.Json{}, api.ErrBad},
		{"\v1", api.Json{}, api.ErrBad}, {"1\v", api.Json{}, api.ErrBad}, {"1 \x00", api.Json{}, api.ErrBad}, {"\ufeff1", api.Json{}, api.ErrBad}, {"0.5", api.Json{}, api.ErrBad},
		{`{"a":1,"a":2}`, api.Json{}, api.ErrTwice}, {"\"\xff\"", api.Json{}, api.ErrText}, {"9007199254740992", api.Json{}, api.ErrLong},
		{strings.Repeat("[", 9) + strings.Repeat("]", 9), api.Json{}, api.ErrDepth}, {nodes(401), api.Json{}, api.ErrLong}, {nodes(5000), api.Json{}, api.ErrLong},
		{nodes(401) + "x", api.Json{}, api.ErrBad}, {nodes(401)[:500], api.Json{}, api.ErrShort},
	} {
		if v, e := json.Parse(x.s); !json.Same(v, x.v) || e != x.e {
			t.Errorf("Parse(%.60q) = %.80v, %v, want %v", x.s, v, e, x.e)
		}
	}
}

// someText is the text of a JSON value in many forms, most of them well-formed.
func someText(r *rand.Rand, depth int) string {
	gap := func() string { return []string{"", "", "", " ", "\n", "\t\r"}[r.Intn(6)] }
	key := func() string { return []string{`"a"`, `"b"`, `"c"`, `"\u0064"`, `""`, `"e\n"`}[r.Intn(6)] }
	kind := r.Intn(12)
	if depth == 0 {
		kind %= 8
	}
	switch kind {
	case 8, 9:
		l := make([]string, r.Intn(4))
		for i := range l {
			l[i] = gap() + someText(r, depth-1) + gap()
		}
		return "[" + gap() + strings.Join(l, ",") + "]"
	case 10, 11:
		l := make([]string, r.Intn(4))
		for i := range l {
			l[i] = gap() + key() + gap() + ":" + gap() + someText(r, depth-1) + gap()
		}
		return "{" + gap() + strings.Join(l, ",") + "}"
	}
	return []string{"null", "true", "false", "0", "-17", `""`, `"a\u20ac\ud83d\ude00"`, "9007199254740991"}[kind]
}

// plain is a value as encoding/json has it.
func plain(v api.Json) any {
	switch v.Kind {
	case api.JsonBool:
		return v.N == 1
	case api.JsonNumber:
		return float64(v.N)
	case api.JsonText:
		return v.Text
	case api.JsonList:
		l := []any{}
		for _, x := range v.Items {
			l = append(l, plain(x))
		}
		return l
	case api.JsonObject:
		m := map[string]any{}
		for i, k := range v.Keys {
			m[k] = plain(v.Items[i])
		}
		return m
	}
	return nil
}

func TestP2_4ParsedIsValid(t *testing.T) {
	r := rand.New(rand.NewSource(5))
	read := 0
	for range 20000 {
		s := someText(r, 4)
		if r.Intn(3) == 0 && len(s) > 0 {
			i := r.Intn(len(s))
			s = s[:i] + []string{"", ",", "]", "}", "\"", " ", "[", "1", "x"}[r.Intn(9)] + s[i+1:]
		}
		v, e := json.Parse(s)
		w, f := json.Parse(" \n" + s + "\t\r ")
		if (e == api.OK) != (f == api.OK) || !json.Same(v, w) {
			t.Fatalf("blanks change %q: %v, %v", s, e, f)
		}
		if e != api.OK {
			if !json.Same(v, api.Json{}) {
				t.Fatalf("a value beside an error: %q", s)
			}
			if (e == api.ErrBad || e == api.ErrShort) && stdjson.Valid([]byte(s)) {
				t.Fatalf("Parse(%q): %v", s, e)
			}
			continue
		}
		read++
		var other any
		if err := stdjson.Unmarshal([]byte(s), &other); err != nil || !reflect.DeepEqual(plain(v), other) {
			t.Fatalf("Parse(%q) = %v, elsewhere %v, %v", s, v, other, err)
		}
		if json.Check(v) != api.OK {
			t.Fatalf("Parse(%q) is not valid", s)
		}
		for i := range len(s) {
			if _, e := json.Parse(s[:i]); e == api.ErrBad || e == api.ErrTwice || e == api.ErrDepth {
				t.Fatalf("%q is the beginning of a text, but %v", s[:i], e)
			}
		}
	}
	if read < 8000 {
		t.Errorf("only %d texts were read", read)
	}
}

func TestP2_4ReadIsNoDeeper(t *testing.T) {
	r := rand.New(rand.NewSource(6))
	for range 5000 {
		s := someText(r, 6)
		whole, e := json.Parse(s)
		if e != api.OK {
			continue
		}
		for d := range api.MostDepth + 1 {
			v, size, e := json.Read(s+"]", d)
			if json.Depth(whole) > d {
				if e != api.ErrDepth || size != 0 {
					t.Fatalf("Read(%q, %d): %v", s, d, e)
				}
			} else if e != api.OK || size != len(s) || !json.Same(v, whole) {
				t.Fatalf("Read(%q, %d) = %v, %d, %v", s, d, v, size, e)
			}
		}
	}
}
