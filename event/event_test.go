package event_test

import (
	"math"
	"math/rand"
	"strconv"
	"strings"
	"testing"

	"outlaw/api"
	"outlaw/canon"
	"outlaw/event"
	"outlaw/json"
)

func null() api.Json              { return api.Json{Kind: api.JsonNull} }
func number(n int64) api.Json     { return api.Json{Kind: api.JsonNumber, N: n} }
func text(s string) api.Json      { return api.Json{Kind: api.JsonText, Text: s} }
func list(l ...api.Json) api.Json { return api.Json{Kind: api.JsonList, Items: l} }
func empty() api.Json             { return api.Json{Kind: api.JsonObject} }

func object(key string, x api.Json) api.Json {
	return api.Json{Kind: api.JsonObject, Keys: []string{key}, Items: []api.Json{x}}
}

// nested is an object of that depth.
func nested(depth int) api.Json {
	v := empty()
	for range depth - 1 {
		v = object("a", v)
	}
	return v
}

func many(n int) api.Json {
	l := make([]api.Json, n)
	for i := range l {
		l[i] = null()
	}
	return list(l...)
}

func message() api.Event {
	return api.Event{ID: "$a", Room: "!r:s", Sender: "@u:s", Type: "t", TS: 1, Body: empty()}
}

func state() api.Event {
	e := message()
	e.State, e.Key, e.Prev = true, "k", []string{"$p", "$b"}
	return e
}

func redaction() api.Event {
	e := message()
	e.Type, e.Redacts = api.TypeRedaction, "$x"
	return e
}

func ids(n int) []string {
	var l []string
	for i := range n {
		l = append(l, "$p"+strconv.Itoa(i))
	}
	return l
}

// A fault is a change that makes a valid event invalid.
type fault struct {
	name string
	do   func(e *api.Event)
	want api.Errno
}

// faults are in the order in which they are found.
func faults() []fault {
	plain := func(e *api.Event) { e.State, e.Key = false, "" }
	return []fault{
		{"ID", func(e *api.Event) { e.ID = "a" }, api.ErrID},
		{"no ID", func(e *api.Event) { e.ID = "" }, api.ErrID},
		{"room", func(e *api.Event) { e.Room = "r:s" }, api.ErrID},
		{"sender", func(e *api.Event) { e.Sender = "@U:s" }, api.ErrID},
		{"no type", func(e *api.Event) { e.Type = "" }, api.ErrField},
		{"long type", func(e *api.Event) { e.Type = strings.Repeat("\xff", 129) }, api.ErrField},
		{"type", func(e *api.Event) { e.Type = "\xff" }, api.ErrText},
		{"long key", func(e *api.Event) { e.State, e.Key = true, strings.Repeat("\xff", 256) }, api.ErrField},
		{"key of no state", func(e *api.Event) { e.State, e.Key = false, "\xff" }, api.ErrField},
		{"key", func(e *api.Event) { e.State, e.Key = true, "a\xc3" }, api.ErrText},
		{"TS below", func(e *api.Event) { e.TS = -1 }, api.ErrArg},
		{"TS above", func(e *api.Event) { e.TS = api.MostNumber + 1 }, api.ErrArg},
		{"too many", func(e *api.Event) { e.Prev = append(ids(8), "x") }, api.ErrLong},
		{"one before that is none", func(e *api.Event) { e.Prev = []string{"$b", "x", "$b"} }, api.ErrID},
		{"one before itself", func(e *api.Event) { e.Prev = []string{"$b", e.ID, "x"} }, api.ErrTwice},
		{"one before twice", func(e *api.Event) { e.Prev = []string{"$b", "$c", "$b", "x"} }, api.ErrTwice},
		{"redacts of another", func(e *api.Event) { e.Redacts = "$x"; e.Type = "t" }, api.ErrField},
		{"nothing redacted", func(e *api.Event) { plain(e); e.Type, e.Redacts = api.TypeRedaction, "" }, api.ErrID},
		{"redacts", func(e *api.Event) { plain(e); e.Type, e.Redacts = api.TypeRedaction, "x" }, api.ErrID},
		{"no body", func(e *api.Event) { e.Body = api.Json{} }, api.ErrKind},
		{"list as body", func(e *api.Event) { e.Body = list() }, api.ErrKind},
		{"deep body", func(e *api.Event) { e.Body = object("a", nested(7)) }, api.ErrDepth},
		{"body of many", func(e *api.Event) { e.Body = object("\xff", many(400)) }, api.ErrLong},
		{"body with no value", func(e *api.Event) { e.Body = object("a", api.Json{}) }, api.ErrKind},
		{"body with a number", func(e *api.Event) { e.Body = object("a", number(math.MaxInt64)) }, api.ErrArg},
		{"body with a text", func(e *api.Event) { e.Body = object("a", text("\xff")) }, api.ErrText},
		{"body with a key", func(e *api.Event) { e.Body = object("\xff", null()) }, api.ErrText},
		{"body with two keys", func(e *api.Event) {
			e.Body = api.Json{Kind: api.JsonObject, Keys: []string{"a", "a"}, Items: []api.Json{null(), null()}}
		}, api.ErrTwice},
		{"long body", func(e *api.Event) { e.Body = object("a", text(strings.Repeat("x", 4096))) }, api.ErrLong},
	}
}

func TestP5_1CheckFaults(t *testing.T) {
	l := faults()
	for _, made := range []func() api.Event{message, state, redaction} {
		if e := event.Check(made()); e != api.OK {
			t.Fatalf("a valid event: %v", e)
		}
		for i, f := range l {
			e := made()
			f.do(&e)
			if got := event.Check(e); got != f.want {
				t.Errorf("%s: %v, want %v", f.name, got, f.want)
			}
			for _, later := range l[i+1:] {
				e := made()
				later.do(&e)
				f.do(&e)
				if got := event.Check(e); got != f.want {
					t.Errorf("%s, before %s: %v, want %v", f.name, later.name, got, f.want)
				}
			}
		}
	}
}

func TestP5_1CheckLimits(t *testing.T) {
	long := func(n int) string { return strings.Repeat("x", n) }
	for i, x := range []struct {
		do   func(e *api.Event)
		want api.Errno
	}{
		{func(e *api.Event) { e.Type = long(128) }, 0}, {func(e *api.Event) { e.Type = long(129) }, api.ErrField}, {func(e *api.Event) { e.Type = "\u20ac\x00" }, 0},
		{func(e *api.Event) { e.Key = long(255) }, 0}, {func(e *api.Event) { e.Key = long(256) }, api.ErrField}, {func(e *api.Event) { e.Key = "" }, 0},
		{func(e *api.Event) { e.State, e.Key = false, "" }, 0}, {func(e *api.Event) { e.State = false }, api.ErrField},
		{func(e *api.Event) { e.TS = 0 }, 0}, {func(e *api.Event) { e.TS = api.MostNumber }, 0}, {func(e *api.Event) { e.TS = math.MinInt64 }, api.ErrArg},
		{func(e *api.Event) { e.Prev = nil }, 0}, {func(e *api.Event) { e.Prev = ids(8) }, 0}, {func(e *api.Event) { e.Prev = ids(9) }, api.ErrLong},
		{func(e *api.Event) { e.Prev = []string{"$p", "$q", "$p"} }, api.ErrTwice}, {func(e *api.Event) { e.Prev = []string{""} }, api.ErrID},
		{func(e *api.Event) { e.Type = api.TypeRedaction }, 0}, {func(e *api.Event) { e.Type, e.Redacts = api.TypeRedaction, "$x" }, api.ErrField},
		{func(e *api.Event) { e.Body = nested(7) }, 0}, {func(e *api.Event) { e.Body = nested(8) }, api.ErrDepth}, {func(e *api.Event) { e.Body = nested(1 << 18) }, api.ErrDepth},
		{func(e *api.Event) { e.Body = object("a", many(388)) }, 0}, {func(e *api.Event) { e.Body = object("a", many(389)) }, api.ErrLong},
	} {
		e := state()
		x.do(&e)
		if got := event.Check(e); got != x.want {
			t.Errorf("%d: %v, want %v", i, got, x.want)
		}
	}
}

// The number of bytes is at the limit for each kind of event.
func TestP5_1CheckBytes(t *testing.T) {
	for _, made := range []func() api.Event{message, state, redaction} {
		e := made()
		e.Body = object("a", text(""))
		s, _ := event.Bytes(e)
		e.Body = object("a", text(strings.Repeat("x", api.MostEvent-len(s))))
		if s, err := event.Bytes(e); len(s) != api.MostEvent || err != api.OK || event.Check(e) != api.OK {
			t.Errorf("%d bytes, %v", len(s), err)
		}
		e.Body = object("a", text(strings.Repeat("x", api.MostEvent-len(s)+1)))
		if s, err := event.Bytes(e); s != "" || err != api.ErrLong || event.Check(e) != api.ErrLong {
			t.Errorf("one byte more: %d, %v", len(s), err)
		}
	}
}

func TestP5_1Redaction(t *testing.T) {
	if !event.Redaction(redaction()) || event.Redaction(message()) || event.Redaction(state()) {
		t.Error("Redaction")
	}
	e := redaction()
	e.State = true
	if event.Redaction(e) {
		t.Error("state is no redaction")
	}
	if !event.Redaction(api.Event{Type: api.TypeRedaction}) {
		t.Error("validity does not matter")
	}
}

func different() []api.Event {
	l := []api.Event{{}, message(), state(), redaction()}
	for _, do := range []func(e *api.Event){
		func(e *api.Event) { e.ID = "$b" }, func(e *api.Event) { e.Room = "!q:s" }, func(e *api.Event) { e.Sender = "@v:s" }, func(e *api.Event) { e.Type = "u" },
		func(e *api.Event) { e.State, e.Key = true, "" }, func(e *api.Event) { e.State, e.Key = true, "l" }, func(e *api.Event) { e.TS = 2 }, func(e *api.Event) { e.Prev = []string{"$p"} },
		func(e *api.Event) { e.Prev = []string{"$q"} }, func(e *api.Event) { e.Prev = []string{"$p", "$q"} }, func(e *api.Event) { e.Prev = []string{"$q", "$p"} },
		func(e *api.Event) { e.Redacts = "\xff" }, func(e *api.Event) { e.Body = object("a", null()) }, func(e *api.Event) { e.Body = api.Json{Kind: 77} },
	} {
		e := message()
		do(&e)
		l = append(l, e)
	}
	return l
}

func TestP5_1SameAndCopy(t *testing.T) {
	l := different()
	for i, a := range l {
		for j, b := range l {
			if got := event.Same(a, event.Copy(b)); got != (i == j) {
				t.Errorf("Same of %d and %d is %v", i, j, got)
			}
		}
	}
	a, b := message(), message()
	a.Prev = []string{}
	if !event.Same(a, b) {
		t.Error("a nil slice and an empty one are the same")
	}
	twoKeys := func(k, l string) api.Event {
		e := message()
		e.Body = api.Json{Kind: api.JsonObject, Keys: []string{k, l}, Items: []api.Json{null(), null()}}
		return e
	}
	if event.Same(twoKeys("a", "b"), twoKeys("b", "a")) || event.Compare(twoKeys("a", "b"), twoKeys("b", "a")) != 0 {
		t.Error("the order of keys matters for Same, not for Compare")
	}
}

func TestP5_1CopySharesNothing(t *testing.T) {
	prev := make([]string, 1, 4)
	prev[0] = "$p"
	e := state()
	e.Prev, e.Body = prev, object("a", list(number(1)))
	c := event.Copy(e)
	c.Prev[0], c.Body.Keys[0], c.Body.Items[0].Items[0].N = "$q", "b", 2
	_ = append(c.Prev, "$spare")
	if prev[0] != "$p" || prev[:2][1] != "" || e.Body.Keys[0] != "a" || e.Body.Items[0].Items[0].N != 1 {
		t.Error("the copy shares memory with the event")
	}
	e.Prev = make([]string, 0, 2)
	_ = append(event.Copy(e).Prev, "$spare")
	if e.Prev[:1][0] != "" {
		t.Error("the copy has the spare capacity of the event")
	}
}

func TestP5_1Compare(t *testing.T) {
	l := different()
	for _, a := range l {
		for _, b := range l {
			x, _ := event.Bytes(a)
			y, _ := event.Bytes(b)
			if got := event.Compare(a, b); got != strings.Compare(x, y) {
				t.Errorf("Compare(%v, %v) = %d", a, b, got)
			}
		}
	}
	if event.Compare(api.Event{}, message()) != -1 || event.Compare(message(), api.Event{}) != 1 || event.Compare(api.Event{}, api.Event{ID: "x"}) != 0 {
		t.Error("an event that is not valid counts as having no bytes")
	}
}

func TestP5_2Bytes(t *testing.T) {
	rich := state()
	rich.Body = api.Json{Kind: api.JsonObject, Keys: []string{"b", "a"}, Items: []api.Json{number(-1), list(text("\n"))}}
	noKey := state()
	noKey.Key, noKey.Prev, noKey.Type = "", nil, api.TypeRedaction
	for i, x := range []struct {
		e    api.Event
		want string
		err  api.Errno
	}{
		{message(), `{"content":{},"event_id":"$a","origin_server_ts":1,"prev_events":[],"room_id":"!r:s","sender":"@u:s","type":"t"}`, 0},
		{rich, `{"content":{"a":["\n"],"b":-1},"event_id":"$a","origin_server_ts":1,"prev_events":["$p","$b"],"room_id":"!r:s","sender":"@u:s","state_key":"k","type":"t"}`, 0},
		{noKey, `{"content":{},"event_id":"$a","origin_server_ts":1,"prev_events":[],"room_id":"!r:s","sender":"@u:s","state_key":"","type":"m.room.redaction"}`, 0},
		{redaction(), `{"content":{},"event_id":"$a","origin_server_ts":1,"prev_events":[],"redacts":"$x","room_id":"!r:s","sender":"@u:s","type":"m.room.redaction"}`, 0},
		{api.Event{}, "", api.ErrID},
	} {
		if s, err := event.Bytes(x.e); s != x.want || err != x.err {
			t.Errorf("%d: %q, %v, want %q", i, s, err, x.want)
		}
	}
	for _, f := range faults() {
		e := state()
		f.do(&e)
		if s, err := event.Bytes(e); s != "" || err != f.want {
			t.Errorf("%s: %q, %v", f.name, s, err)
		}
	}
}

// raw is a text of an event: keys and texts of their values, in turn.
func raw(l ...string) string {
	var parts []string
	for i := 0; i < len(l); i += 2 {
		if l[i+1] != "" {
			parts = append(parts, `"`+l[i]+`":`+l[i+1])
		}
	}
	return "{" + strings.Join(parts, " , ") + "}"
}

// with is the text of an event where some keys have other values, or none.
func with(l ...string) string {
	base := []string{"type", `"t"`, "event_id", `"$a"`, "sender", `"@u:s"`, "room_id", `"!r:s"`, "prev_events", `["$p"]`, "content", `{"b":1,"a":[2]}`, "origin_server_ts", "7", "state_key", "", "redacts", ""}
	for i := 0; i < len(l); i += 2 {
		found := false
		for j := 0; j < len(base); j += 2 {
			if base[j] == l[i] {
				base[j+1], found = l[i+1], true
			}
		}
		if !found {
			base = append(base, l[i], l[i+1])
		}
	}
	return raw(base...)
}

func TestP5_2Read(t *testing.T) {
	body := api.Json{Kind: api.JsonObject, Keys: []string{"b", "a"}, Items: []api.Json{number(1), list(number(2))}}
	want := api.Event{ID: "$a", Room: "!r:s", Sender: "@u:s", Type: "t", TS: 7, Prev: []string{"$p"}, Body: body}
	check := func(s string, want api.Event) {
		t.Helper()
		if e, err := event.Read(s); err != api.OK || !event.Same(e, want) && !event.Same(e, canonical(want)) {
			t.Errorf("Read(%s) = %v, %v", s, e, err)
		}
	}
	check(with(), want)
	check("\n "+with()+"\t", want)
	want.State = true
	check(with("state_key", `""`), want)
	want.Key = "k\n"
	check(with("state_key", `"k\n"`), want)
	want.State, want.Key, want.Type, want.Redacts = false, "", api.TypeRedaction, "$x"
	check(with("type", `"m.room.redaction"`, "redacts", `"$x"`), want)
	want.State, want.Redacts = true, ""
	check(with("type", `"m.room.redaction"`, "state_key", `""`), want)
	want.Prev = nil
	check(with("type", `"m.room.redaction"`, "state_key", `""`, "prev_events", "[]"), want)
}

func canonical(e api.Event) api.Event {
	e.Body = canon.Canon(e.Body)
	return e
}

func TestP5_2ReadRefuses(t *testing.T) {
	long := `"` + strings.Repeat("x", 5000) + `"`
	pad := func(n int) string { return with() + strings.Repeat(" ", n-len(with())) }
	deep := strings.Repeat(`{"a":`, 7) + "{}" + strings.Repeat("}", 7)
	for i, x := range []struct {
		s    string
		want api.Errno
	}{
		{pad(4096), 0}, {pad(4097), api.ErrLong}, {strings.Repeat("x", 5000), api.ErrLong}, {with("content", `{"a":`+long+`}`), api.ErrLong},
		{"", api.ErrShort}, {"x", api.ErrBad}, {with()[:20], api.ErrShort}, {with() + "x", api.ErrBad}, {`{"a":1,"a":1}`, api.ErrTwice}, {"\"\xff", api.ErrText},
		{with("content", deep), api.ErrDepth}, {"[" + strings.Repeat("0,", 400) + "0]", api.ErrLong}, {with("origin_server_ts", "9007199254740992"), api.ErrLong},
		{"[]", api.ErrKind}, {"null", api.ErrKind}, {`"a"`, api.ErrKind}, {"5", api.ErrKind},
		{"{}", api.ErrField}, {`{"x":1}`, api.ErrField}, {with("x", "1"), api.ErrField}, {with("", "1"), api.ErrField}, {with("Type", "1"), api.ErrField}, {with("unsigned", "{}"), api.ErrField},
		{with("x", "1", "type", "1"), api.ErrField}, {with("sender", "", "type", "1"), api.ErrField}, {with("x", "1", "event_id", `""`), api.ErrField},
		{with("redacts", `"$x"`), api.ErrField}, {with("redacts", `""`), api.ErrField}, {with("redacts", `"$x"`, "state_key", `""`, "type", `"m.room.redaction"`), api.ErrField},
		{with("type", `"m.room.redaction"`), api.ErrField}, {with("redacts", `"$x"`, "event_id", `"a"`), api.ErrField}, {with("type", `"m.room.redaction"`, "event_id", `"a"`), api.ErrField},
		{with("redacts", "1"), api.ErrKind}, {with("redacts", `"$x"`, "origin_server_ts", `"1"`), api.ErrKind}, {with("type", `"m.room.redaction"`, "redacts", `"x"`), api.ErrID},
		{with("type", `"m.room.redaction"`, "redacts", `""`), api.ErrID},
		{with("event_id", `"a"`), api.ErrID}, {with("room_id", `""`), api.ErrID}, {with("sender", `"u"`), api.ErrID}, {with("type", `""`), api.ErrField}, {with("origin_server_ts", "-1"), api.ErrArg},
		{with("prev_events", `["$a"]`), api.ErrTwice}, {with("prev_events", `["$b","$b"]`), api.ErrTwice}, {with("prev_events", `["b"]`), api.ErrID},
		{with("prev_events", `["$1","$2","$3","$4","$5","$6","$7","$8","$9"]`), api.ErrLong}, {with("state_key", `"`+strings.Repeat("k", 256)+`"`), api.ErrField},
		{with("event_id", `"a"`, "content", "[]"), api.ErrKind}, {with("event_id", `"a"`, "prev_events", "[1]"), api.ErrKind},
	} {
		e, err := event.Read(x.s)
		if err != x.want || err != api.OK && !event.Same(e, api.Event{}) {
			t.Errorf("%d: Read(%.150s) = %v, %v, want %v", i, x.s, e, err, x.want)
		}
	}
}

// Every key that is required may be missing, and every key has one kind.
func TestP5_2ReadKeys(t *testing.T) {
	kinds := map[string]string{"null": "", "true": "", "1": "origin_server_ts", `"$x"`: "text", "[]": "prev_events", `{"x":"$x"}`: "content", `["$x",1]`: "", `["$x",["$x"]]`: ""}
	for _, key := range []string{"content", "event_id", "origin_server_ts", "prev_events", "room_id", "sender", "type", "state_key", "redacts"} {
		optional := key == "state_key" || key == "redacts"
		if _, err := event.Read(with(key, "")); (err == api.ErrField) == optional {
			t.Errorf("without %s: %v", key, err)
		}
		for v, of := range kinds {
			fits := of == key || of == "text" && key != "content" && key != "origin_server_ts" && key != "prev_events"
			if _, err := event.Read(with(key, v)); (err == api.ErrKind) == fits {
				t.Errorf("%s with %s: %v", key, v, err)
			}
		}
	}
}

func TestP5_3ReadOfBytes(t *testing.T) {
	r := rand.New(rand.NewSource(9))
	bodies := []api.Json{empty(), object("a", null()), {Kind: api.JsonObject, Keys: []string{"b", "", "a"}, Items: []api.Json{number(5), text("\u20ac\""), list(nested(3))}}}
	for range 3000 {
		e := []func() api.Event{message, state, redaction}[r.Intn(3)]()
		e.ID = "$" + strconv.Itoa(r.Intn(1000))
		e.TS = r.Int63n(api.MostNumber + 1)
		e.Prev = nil
		for _, i := range r.Perm(9)[:r.Intn(9)] {
			e.Prev = append(e.Prev, "$p"+strconv.Itoa(i))
		}
		e.Body = bodies[r.Intn(3)]
		if e.State {
			e.Key = []string{"", "@u:s", "\x00\n\\"}[r.Intn(3)]
		}
		s, err := event.Bytes(e)
		if err != api.OK || !canon.Is(s) {
			t.Fatal(s, err)
		}
		back, err := event.Read(s)
		if err != api.OK || !event.Same(back, canonical(e)) || event.Check(back) != api.OK {
			t.Fatalf("%s is read as %v, %v", s, back, err)
		}
		if again, _ := event.Bytes(back); again != s || event.Compare(e, back) != 0 {
			t.Fatalf("%s becomes %s", s, again)
		}
		if v, _ := json.Parse(s); len(v.Keys) < 7 {
			t.Fatal(s)
		}
	}
}
