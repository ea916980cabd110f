package home_test

import (
	"math"
	"math/rand"
	"slices"
	"strconv"
	"strings"
	"testing"

	"outlaw/api"
	"outlaw/content"
	"outlaw/dag"
	"outlaw/event"
	"outlaw/home"
	"outlaw/plan"
	"outlaw/resolve"
	"outlaw/target"
)

const (
	bot  = "@bot:s"
	room = "!r:s"
	eve  = "@eve:x"
)

func made(t *testing.T, l ...api.Event) *home.Home {
	t.Helper()
	h, e := home.New(bot)
	if e != api.OK {
		t.Fatal(e)
	}
	for _, x := range l {
		if e := h.Put(x); e != api.OK {
			t.Fatal(x, e)
		}
	}
	return h
}

func message(id, where string, ts int64, prev ...string) api.Event {
	return api.Event{ID: id, Room: where, Sender: bot, Type: "m", TS: ts, Prev: prev, Body: api.Json{Kind: api.JsonObject}}
}

func join(id, user string, ts int64, prev ...string) api.Event {
	e := message(id, room, ts, prev...)
	e.Sender, e.Type, e.State, e.Key = user, api.TypeMember, true, user
	e.Body, _ = content.MemberBody(api.MemberJoin)
	return e
}

// begun are the first events of a room of the bot.
func begun() []api.Event {
	create := message("$c", room, 0)
	create.Type, create.State = api.TypeCreate, true
	create.Body, _ = content.CreateBody(bot)
	return []api.Event{create, join("$j", bot, 1, "$c"), join("$e", eve, 2, "$j")}
}

func ban(user string) api.Action {
	return api.Action{Kind: api.ActBan, Room: room, Subject: user, Reason: "why"}
}

func reply(txn int64, ok bool) api.Input { return api.Input{Kind: api.InReply, N: txn, OK: ok} }

func sameEvents(a, b []api.Event) bool { return slices.EqualFunc(a, b, event.Same) }

func bytes(t *testing.T, e api.Event) string {
	t.Helper()
	s, err := event.Bytes(e)
	if err != api.OK {
		t.Fatal(err)
	}
	return s
}

func TestP28_1New(t *testing.T) {
	for who, want := range map[string]api.Errno{bot: 0, "": api.ErrID, "bot": api.ErrID, "!r:s": api.ErrID} {
		h, e := home.New(who)
		if e != want || (h == nil) != (e != api.OK) {
			t.Errorf("New(%q): %v", who, e)
		}
	}
	h := made(t)
	if a, is := h.Action(1); len(h.Replies())+len(h.Echoes())+len(h.Events(room))+len(h.Done()) != 0 || is || a != (api.Action{}) {
		t.Error("a new home is empty")
	}
}

func TestP28_1Invalid(t *testing.T) {
	for i, h := range []*home.Home{nil, {}} {
		h.Refuse(5)
		if a, is := h.Action(1); h.Put(begun()[0]) != api.ErrNil || h.Put(api.Event{}) != api.ErrNil || h.Send(1, ban(eve)) != api.ErrNil || h.Send(0, ban(eve)) != api.ErrNil || len(h.Replies())+len(h.Echoes())+len(h.Events(room))+len(h.Done()) != 0 || is || a != (api.Action{}) {
			t.Errorf("%d: a home that New did not return does something", i)
		}
	}
}

func TestP28_1Put(t *testing.T) {
	h := made(t)
	smaller := message("$a", room, 1)
	for i, x := range []struct {
		e    api.Event
		want api.Errno
	}{{api.Event{}, api.ErrID}, {message("$a", room, -1), api.ErrArg}, {message("$a", room, 5), 0}, {message("$a", room, 5), 0}, {message("$a", room, 9), 0}, {smaller, 0}, {message("$b", room, 2, "$lost"), 0}} {
		if e := h.Put(x.e); e != x.want {
			t.Errorf("%d: Put: %v", i, e)
		}
	}
	if got := h.Events(room); !sameEvents(got, []api.Event{smaller, message("$b", room, 2, "$lost")}) {
		t.Error(got)
	}
	h.Events(room)[0].ID = "$changed"
	if h.Events(room)[0].ID != "$a" || len(h.Events("!q:s")) != 0 || len(h.Events("")) != 0 || len(h.Echoes()) != 0 {
		t.Error("Events")
	}
	for i := range 15 {
		if e := h.Put(message("$a", "!q"+strconv.Itoa(i)+":s", 1)); e != api.OK {
			t.Error(i, e)
		}
	}
	if h.Put(message("$a", "!new:s", 1)) != api.ErrFull || h.Put(message("$a", "!new:s", -1)) != api.ErrArg || h.Put(message("$new", "!q3:s", 1)) != api.OK || len(h.Events("!new:s")) != 0 {
		t.Error("a home with all rooms")
	}
	for i := range 199 {
		h.Put(message("$n"+strconv.Itoa(i), room, 1))
	}
	if h.Put(message("$last", room, 1)) != api.ErrFull || h.Put(smaller) != api.OK || len(h.Events(room)) != 200 {
		t.Error("a full room", len(h.Events(room)))
	}
}

func TestP28_1AndP28_2Send(t *testing.T) {
	h := made(t, begun()...)
	for _, txn := range []int64{0, -1, math.MinInt64} {
		if e := h.Send(txn, ban(eve)); e != api.ErrArg {
			t.Error(txn, e)
		}
	}
	if e := h.Send(7, ban(eve)); e != api.OK {
		t.Error(e)
	}
	echo, _ := plan.Echo(ban(eve), bot, "$h7", 3, []string{"$e"})
	if got := h.Events(room); len(got) != 4 || !event.Same(got[2], echo) {
		t.Error(got)
	}
	if got := h.Echoes(); !slices.Equal(got, []string{bytes(t, echo)}) || len(h.Echoes()) != 0 {
		t.Error(got)
	}
	if got := h.Replies(); !slices.Equal(got, []api.Input{reply(7, true)}) || len(h.Replies()) != 0 {
		t.Error(got)
	}
	if a, is := h.Action(7); !is || a != ban(eve) || !slices.Equal(h.Done(), []int64{7}) {
		t.Error(a, is, h.Done())
	}
	h.Send(7, ban("@other:x"))
	if a, _ := h.Action(7); a != ban(eve) || len(h.Echoes()) != 0 || len(h.Events(room)) != 4 || !slices.Equal(h.Replies(), []api.Input{reply(7, true)}) {
		t.Error("a transaction is done once")
	}
	h.Send(3, api.Action{Kind: api.ActAcl, Room: room, Deny: "evil"})
	h.Send(math.MaxInt64, ban("@x:x"))
	if !slices.Equal(h.Done(), []int64{3, 7, math.MaxInt64}) || !slices.Equal(h.Replies(), []api.Input{reply(3, true), reply(math.MaxInt64, true)}) || len(h.Echoes()) != 2 {
		t.Error(h.Done())
	}
	if e := h.Events(room); e[len(e)-1].ID != "$j" || !slices.Equal(dag.Heads(e), []string{"$h9223372036854775807"}) {
		t.Error(dag.Heads(e))
	}
}

func TestP28_2InOrder(t *testing.T) {
	h := made(t, begun()...)
	txns := []int64{9, 2, 30, 4}
	var want []api.Input
	for _, txn := range txns {
		h.Send(txn, ban("@u"+strconv.FormatInt(txn, 10)+":x"))
		want = append(want, reply(txn, true))
	}
	echoes := h.Echoes()
	if got := h.Replies(); !slices.Equal(got, want) || len(echoes) != 4 || !slices.Equal(h.Done(), []int64{2, 4, 9, 30}) {
		t.Error(got, len(echoes), h.Done())
	}
	for i, s := range echoes {
		e, err := event.Read(s)
		if err != api.OK || e.ID != "$h"+strconv.FormatInt(txns[i], 10) || e.Key != "@u"+strconv.FormatInt(txns[i], 10)+":x" {
			t.Error("an echo", i, e, err)
		}
		if a, is := h.Action(txns[i]); !is || a != ban(e.Key) {
			t.Error("Action", a, is)
		}
	}
	for _, txn := range []int64{0, 1, -9, 5} {
		if a, is := h.Action(txn); is || a != (api.Action{}) {
			t.Error("what was not done", txn, a)
		}
	}
	events := h.Events(room)
	if len(events) != 7 || !slices.IsSortedFunc(events, func(a, b api.Event) int { return strings.Compare(a.ID, b.ID) }) {
		t.Error(events)
	}
	h.Send(9, ban(eve))
	h.Send(50, ban(eve))
	if got := h.Echoes(); len(got) != 1 || len(h.Echoes()) != 0 || !slices.Equal(h.Replies(), []api.Input{reply(9, true), reply(50, true)}) || len(h.Replies()) != 0 {
		t.Error("what was returned is not returned again", got)
	}
}

func TestP28_1SendWhere(t *testing.T) {
	h := made(t)
	h.Send(1, ban(eve))
	if got := h.Events(room); len(got) != 1 || got[0].TS != 0 || len(got[0].Prev) != 0 || got[0].ID != "$h1" {
		t.Error("the first event of a room", got)
	}
	h = made(t, message("$a", room, api.MostNumber))
	h.Send(1, ban(eve))
	if got := h.Events(room); got[1].TS != api.MostNumber || !slices.Equal(got[1].Prev, []string{"$a"}) {
		t.Error("the greatest TS", got)
	}
	h = made(t, message("$a", room, 4), message("$held", room, 9, "$lost"))
	h.Send(1, ban(eve))
	if got := h.Events(room); got[1].TS != 10 || !slices.Equal(got[1].Prev, []string{"$a"}) {
		t.Error("an event that is held counts for the TS, not for Prev", got)
	}
	h = made(t)
	for i := range 12 {
		h.Put(message("$"+string(rune('z'-i)), room, int64(20-i)))
	}
	h.Send(1, ban(eve))
	if got := h.Events(room)[0]; got.ID != "$h1" || got.TS != 21 || !slices.Equal(got.Prev, []string{"$o", "$p", "$q", "$r", "$s", "$t", "$u", "$v"}) {
		t.Error("the first heads", got)
	}
}

func TestP28_1SendNo(t *testing.T) {
	h := made(t, append(begun(), message("$h5", room, 1, "$c"), message("$h7", room, 9, "$e"), message("$z", room, 2, "$h5"))...)
	for i, x := range []struct {
		txn int64
		a   api.Action
	}{
		{1, api.Action{}}, {2, api.Action{Kind: 5, Room: room, Subject: eve}}, {3, api.Action{Kind: api.ActBan, Room: "r", Subject: eve}}, {4, api.Action{Kind: api.ActRedact, Room: room, Subject: "x"}}, {5, ban(eve)}, {7, ban(eve)}, {6, api.Action{Kind: api.ActAcl, Room: room, Deny: "\xff"}},
	} {
		before := h.Events(room)
		if e := h.Send(x.txn, x.a); e != api.OK {
			t.Errorf("%d: %v", i, e)
		}
		a, is := h.Action(x.txn)
		if got := h.Replies(); !slices.Equal(got, []api.Input{reply(x.txn, false)}) || is || a != (api.Action{}) || len(h.Done()) != 0 || len(h.Echoes()) != 0 || !sameEvents(before, h.Events(room)) {
			t.Errorf("%d: %v", i, got)
		}
	}
	if h.Send(1, ban(eve)); !slices.Equal(h.Replies(), []api.Input{reply(1, true)}) {
		t.Error("what was answered with no may be done later")
	}
	for i := range 16 {
		h.Put(message("$a", "!q"+strconv.Itoa(i)+":s", 1))
	}
	elsewhere := ban(eve)
	elsewhere.Room = "!new:s"
	if h.Send(8, elsewhere); !slices.Equal(h.Replies(), []api.Input{reply(8, false)}) || len(h.Events("!new:s")) != 0 {
		t.Error("there is no room for another room")
	}
	for i := range 200 {
		h.Put(message("$n"+strconv.Itoa(i), room, 1))
	}
	if h.Send(9, ban(eve)); !slices.Equal(h.Replies(), []api.Input{reply(9, false)}) || len(h.Events(room)) != 200 || len(h.Done()) != 1 {
		t.Error("there is no room for another event")
	}
}

func TestP28_1Refuse(t *testing.T) {
	h := made(t, begun()...)
	h.Send(1, ban(eve))
	h.Send(1, ban(eve))
	h.Refuse(1)
	h.Send(2, ban("@b:x"))
	h.Send(2, ban("@b:x"))
	if got := h.Replies(); !slices.Equal(got, []api.Input{reply(1, true), reply(1, true), reply(2, false), reply(2, true)}) {
		t.Error("the example", got)
	}
	h.Refuse(2)
	h.Send(1, ban(eve))
	h.Send(3, ban("@c:x"))
	h.Send(4, api.Action{})
	h.Send(3, ban("@c:x"))
	if got := h.Replies(); !slices.Equal(got, []api.Input{reply(1, true), reply(3, false), reply(4, false), reply(3, true)}) {
		t.Error("what was done is not refused", got)
	}
	for _, n := range []int{0, -1, math.MinInt} {
		h.Refuse(5)
		h.Refuse(n)
		h.Send(5, ban("@d:x"))
		if got := h.Replies(); !slices.Equal(got, []api.Input{reply(5, true)}) {
			t.Error("Refuse", n, got)
		}
	}
	h.Refuse(math.MaxInt)
	h.Send(6, ban("@e:x"))
	h.Refuse(1)
	h.Send(6, ban("@e:x"))
	h.Send(6, ban("@e:x"))
	if got := h.Replies(); !slices.Equal(got, []api.Input{reply(6, false), reply(6, false), reply(6, true)}) {
		t.Error(got)
	}
}

func TestP28_1MostWaiting(t *testing.T) {
	h := made(t, begun()...)
	var want []api.Input
	for i := range 8 {
		txn := int64(i + 1)
		if e := h.Send(txn, ban("@u"+strconv.Itoa(i)+":x")); e != api.OK {
			t.Error(e)
		}
		want = append(want, reply(txn, true))
	}
	h.Refuse(1)
	if h.Send(9, ban(eve)) != api.ErrFull || h.Send(1, ban(eve)) != api.ErrFull || h.Send(0, ban(eve)) != api.ErrArg || len(h.Done()) != 8 || len(h.Events(room)) != 11 || len(h.Echoes()) != 8 {
		t.Error("a transaction is not processed without room for its answer")
	}
	if got := h.Replies(); !slices.Equal(got, want) {
		t.Error(got)
	}
	h.Send(9, ban(eve))
	h.Send(9, ban(eve))
	if got := h.Replies(); !slices.Equal(got, []api.Input{reply(9, false), reply(9, true)}) {
		t.Error("a refusal was used up", got)
	}
}

// Whatever is sent with a number later, its transaction was done at most once, and as it was then.
func TestP28_3Once(t *testing.T) {
	r := rand.New(rand.NewSource(38))
	for range 100 {
		h := made(t, begun()...)
		done := map[int64]api.Action{}
		for range 60 {
			txn := 1 + r.Int63n(10)
			a := ban("@u" + strconv.Itoa(r.Intn(20)) + ":x")
			if r.Intn(8) == 0 {
				a.Room = "bad"
			}
			if r.Intn(10) == 0 {
				h.Refuse(r.Intn(4))
			}
			before := len(h.Events(room))
			h.Send(txn, a)
			for _, x := range h.Replies() {
				_, did := done[txn]
				if x.N != txn || did && (!x.OK || len(h.Events(room)) != before) || !did && len(h.Events(room))-before != map[bool]int{true: 1}[x.OK] {
					t.Fatal("an answer", x)
				}
				if x.OK && !did {
					done[txn] = a
				}
			}
			for txn, a := range done {
				if got, is := h.Action(txn); got != a || !is {
					t.Fatal("a transaction was done otherwise", txn)
				}
			}
			if len(h.Done()) != len(done) || !slices.IsSorted(h.Done()) {
				t.Fatal(h.Done())
			}
		}
		if n := len(h.Echoes()); n != len(done) || len(h.Events(room)) != 3+n {
			t.Fatal("each transaction has one echo")
		}
	}
}

// What the bot may do is accepted where the home puts it.
func TestP28_3Accepted(t *testing.T) {
	msg := message("$m", room, 5, "$e")
	msg.Sender = eve
	h := made(t, append(begun(), msg)...)
	x := resolve.Of(h.Events(room))
	tg := target.Of([]api.Rule{{Kind: api.RuleUser, Entity: "@eve:*", Reason: "spam"}, {Kind: api.RuleServer, Entity: "x"}}, nil, bot, x)
	wants := plan.Wants(room, tg, x, nil, bot)
	if len(wants) != 3 {
		t.Fatal(wants)
	}
	for i, a := range wants {
		h.Send(int64(i+1), a)
	}
	after := resolve.Of(h.Events(room))
	if len(after.Refused) != 0 || len(after.Order) != 7 || !after.Messages[0].Redacted || !slices.Equal(plan.Banned(after.State), []string{eve}) {
		t.Error(after)
	}
	if left := plan.All(room, target.Of([]api.Rule{{Kind: api.RuleUser, Entity: "@eve:*", Reason: "spam"}, {Kind: api.RuleServer, Entity: "x"}}, nil, bot, after), after, []string{eve}, bot); len(left) != 0 {
		t.Error(left)
	}
}
