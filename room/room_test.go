package room_test

import (
	"fmt"
	"math/rand"
	"slices"
	"strconv"
	"testing"

	"outlaw/api"
	"outlaw/canon"
	"outlaw/content"
	"outlaw/dag"
	"outlaw/event"
	"outlaw/resolve"
	"outlaw/room"
)

const (
	id    = "!r:s"
	alice = "@a:s"
)

func body(keys ...string) api.Json {
	v := api.Json{Kind: api.JsonObject, Keys: keys}
	for range keys {
		v.Items = append(v.Items, api.Json{Kind: api.JsonNull})
	}
	return v
}

func message(eid string, ts int64, prev ...string) api.Event {
	return api.Event{ID: eid, Room: id, Sender: alice, Type: "m", TS: ts, Prev: prev, Body: body()}
}

// begun are the first events of a room.
func begun() []api.Event {
	create, join := message("$c", 0), message("$j", 1, "$c")
	create.State, create.Type = true, api.TypeCreate
	create.Body, _ = content.CreateBody(alice)
	join.State, join.Type, join.Key = true, api.TypeMember, alice
	join.Body, _ = content.MemberBody(api.MemberJoin)
	return []api.Event{create, join}
}

func made(t *testing.T, l ...api.Event) *room.Room {
	t.Helper()
	r, err := room.New(id)
	if err != api.OK {
		t.Fatal(err)
	}
	for _, e := range l {
		if _, err := r.Deliver(e); err != api.OK {
			t.Fatal(e, err)
		}
	}
	return r
}

func sameEvents(a, b []api.Event) bool { return slices.EqualFunc(a, b, event.Same) }

func TestP15_1New(t *testing.T) {
	for s, want := range map[string]api.Errno{id: 0, "!a.B:s:80": 0, "": api.ErrID, "r:s": api.ErrID, "@a:s": api.ErrID, "!r": api.ErrID, "!r:": api.ErrID} {
		r, err := room.New(s)
		if err != want || (r == nil) != (err != api.OK) {
			t.Errorf("New(%q): %v, %v", s, r, err)
		}
		if r != nil && (r.ID() != s || r.Len() != 0 || len(r.Events()) != 0 || r.Has("$a") || len(r.Held())+len(r.Missing())+len(r.Heads()) != 0 || !resolve.Same(r.Resolved(), api.Resolved{})) {
			t.Errorf("New(%q) is not empty", s)
		}
	}
}

func TestP15_1Invalid(t *testing.T) {
	for i, r := range []*room.Room{nil, {}} {
		fresh, err := r.Deliver(message("$d", 1))
		_, other := r.Deliver(api.Event{})
		if fresh || err != api.ErrNil || other != api.ErrNil || r.ID() != "" || r.Len() != 0 || r.Has("$a") || len(r.Events()) != 0 || !resolve.Same(r.Resolved(), api.Resolved{}) || len(r.Held())+len(r.Missing())+len(r.Heads()) != 0 || r.Copy() != nil {
			t.Errorf("%d: a room that was not made does something", i)
		}
	}
}

func TestP15_1Deliver(t *testing.T) {
	r := made(t)
	bad, foreign, small := message("$b", -1), message("$b", 1), message("$a", 4)
	foreign.Room = "!q:s"
	both := foreign
	both.TS = -1
	// The bytes of this one are the smallest, as a key comes before the end of a body.
	long := message("$a", 7)
	long.Body = body("a", "b")
	for i, x := range []struct {
		e     api.Event
		fresh bool
		err   api.Errno
	}{
		{message("$a", 5), true, 0}, {message("$a", 5), false, 0}, {message("$a", 6), false, 0}, {small, true, 0}, {message("$a", 5), false, 0}, {small, false, 0}, {long, true, 0}, {small, false, 0}, {bad, false, api.ErrArg}, {foreign, false, api.ErrArg},
		{both, false, api.ErrArg}, {api.Event{}, false, api.ErrID}, {message("$a", 1, "$a"), false, api.ErrTwice}, {message("$b", 1), true, 0}, {message("$n", 1, "$nothing"), true, 0},
	} {
		fresh, err := r.Deliver(x.e)
		if fresh != x.fresh || err != x.err {
			t.Errorf("%d: %v, %v", i, fresh, err)
		}
	}
	if got := r.Events(); !sameEvents(got, []api.Event{long, message("$b", 1), message("$n", 1, "$nothing")}) {
		t.Errorf("%v", got)
	}
	broken := foreign
	broken.Type = ""
	if _, err := r.Deliver(broken); err != api.ErrField {
		t.Error("the error of the event comes before that of the room", err)
	}
}

func TestP15_1Full(t *testing.T) {
	r := made(t)
	for i := range api.MostEvents {
		if fresh, err := r.Deliver(message("$"+strconv.Itoa(i), 5)); !fresh || err != api.OK {
			t.Fatal(i, fresh, err)
		}
	}
	foreign := message("$new", 1)
	foreign.Room = "!q:s"
	for i, x := range []struct {
		e     api.Event
		fresh bool
		err   api.Errno
	}{
		{message("$new", 1), false, api.ErrFull}, {message("$7", 5), false, 0}, {message("$7", 4), true, 0}, {message("$7", 9), false, 0}, {foreign, false, api.ErrArg}, {message("$new", -1), false, api.ErrArg}, {message("$200", 1), false, api.ErrFull},
	} {
		if fresh, err := r.Deliver(x.e); fresh != x.fresh || err != x.err {
			t.Errorf("%d: %v, %v", i, fresh, err)
		}
	}
	if r.Len() != 200 || r.Has("$new") || !r.Has("$0") || !r.Has("$199") || r.Has("") {
		t.Error(r.Len())
	}
}

func TestP15_1BodiesAreCanonical(t *testing.T) {
	e := message("$a", 1)
	e.Body = body("b", "a")
	r := made(t, e)
	if got := r.Events()[0].Body.Keys; !slices.Equal(got, []string{"a", "b"}) {
		t.Error(got)
	}
	e.Body = body("a", "b")
	if fresh, _ := r.Deliver(e); fresh {
		t.Error("the same bytes are not fresh")
	}
}

func TestP15_2Results(t *testing.T) {
	l := append(begun(), message("$m", 5, "$j"), message("$n", 4, "$j"), message("$h", 3, "$x", "$j"), message("$i", 3, "$h", "$a"))
	r := made(t)
	for i, e := range l {
		r.Deliver(e)
		part := l[:i+1]
		if !resolve.Same(r.Resolved(), resolve.Of(part)) || !slices.Equal(r.Held(), dag.Held(part)) || !slices.Equal(r.Missing(), dag.Missing(part)) || !slices.Equal(r.Heads(), dag.Heads(part)) || !sameEvents(r.Events(), dag.Dedup(part)) || r.Len() != i+1 {
			t.Fatal("the results after", e.ID)
		}
	}
	if !slices.Equal(r.Held(), []string{"$h", "$i"}) || !slices.Equal(r.Missing(), []string{"$a", "$x"}) || !slices.Equal(r.Heads(), []string{"$m", "$n"}) || !slices.Equal(r.Resolved().Order, []string{"$c", "$j", "$n", "$m"}) {
		t.Error(r.Held(), r.Missing(), r.Heads(), r.Resolved().Order)
	}
	r.Deliver(message("$x", 9))
	r.Deliver(message("$a", 9))
	if len(r.Held())+len(r.Missing()) != 0 || len(r.Resolved().Order) != 8 {
		t.Error("what was missing has arrived")
	}
	r.Deliver(message("$m", 0, "$j"))
	if got := r.Resolved().Order; got[2] != "$m" {
		t.Error("an event was replaced", got)
	}
}

func TestP15_2SharesNothing(t *testing.T) {
	e := message("$m", 5, "$j")
	e.Body = body("a")
	r := made(t, append(begun(), e)...)
	keep := fmt.Sprint(r.Events(), r.Resolved())
	e.Prev[0], e.Body.Keys[0] = "$z", "z"
	for _, x := range r.Events() {
		x.Body.Keys[0] = "ruined"
		if len(x.Prev) > 0 {
			x.Prev[0] = "$ruined"
		}
	}
	res := r.Resolved()
	res.Order[0], res.State.Members[0].User, res.Messages[0].ID = "ruined", "ruined", "ruined"
	if fmt.Sprint(r.Events(), r.Resolved()) != keep {
		t.Error("the room shares memory with an event, or with a result")
	}
}

func TestP15_2Copy(t *testing.T) {
	r := made(t, append(begun(), message("$m", 5, "$j"))...)
	c := r.Copy()
	keep := fmt.Sprint(r.Events(), r.Resolved(), r.ID())
	if fmt.Sprint(c.Events(), c.Resolved(), c.ID()) != keep {
		t.Error("the copy has other events")
	}
	c.Deliver(message("$n", 1))
	c.Deliver(message("$m", 0, "$j"))
	if fmt.Sprint(r.Events(), r.Resolved(), r.ID()) != keep || c.Len() != 4 {
		t.Error("the copy is not independent")
	}
	d := r.Copy()
	r.Deliver(message("$q", 1))
	if d.Has("$q") || fmt.Sprint(d.Events(), d.Resolved(), d.ID()) != keep {
		t.Error("the copy follows the room")
	}
	if cc := c.Copy(); cc.Len() != 4 || !sameEvents(cc.Events(), c.Events()) {
		t.Error("a copy of a copy")
	}
}

func TestP15_3AnyOrder(t *testing.T) {
	r := rand.New(rand.NewSource(21))
	for range 200 {
		l := begun()
		for i := range 20 {
			e := message("$"+strconv.Itoa(r.Intn(12)), int64(2+r.Intn(6)), []string{"$j", "$" + strconv.Itoa(r.Intn(12)), "$lost"}[r.Intn(3)])
			if e.Prev[0] == e.ID {
				e.Prev = nil
			}
			e.Body = body([]string{"a", "b", "c"}[:i%4%3]...)
			l = append(l, e)
		}
		m := append(slices.Clone(l), l[:r.Intn(len(l))]...)
		r.Shuffle(len(m), func(i, j int) { m[i], m[j] = m[j], m[i] })
		a, b := made(t, l...), made(t)
		for i, e := range m {
			if i%5 == 0 {
				b.Resolved()
			}
			before := fmt.Sprint(b.Events())
			fresh, _ := b.Deliver(e)
			if fresh != (fmt.Sprint(b.Events()) != before) {
				t.Fatal("fresh is not whether anything has changed")
			}
		}
		if !sameEvents(a.Events(), b.Events()) || !resolve.Same(a.Resolved(), b.Resolved()) || !slices.Equal(a.Held(), b.Held()) || !slices.Equal(a.Missing(), b.Missing()) || !slices.Equal(a.Heads(), b.Heads()) {
			t.Fatal("the order in which events are delivered matters")
		}
		if !sameEvents(a.Events(), dag.Dedup(l)) || !canonical(a) {
			t.Fatal("the events of the room")
		}
	}
}

// canonical reports whether all bodies are canonical.
func canonical(r *room.Room) bool {
	for _, e := range r.Events() {
		if !slices.Equal(canon.Canon(e.Body).Keys, e.Body.Keys) {
			return false
		}
	}
	return true
}
