package resolve_test

import (
	"fmt"
	"math/rand"
	"slices"
	"strconv"
	"testing"

	"outlaw/api"
	"outlaw/auth"
	"outlaw/content"
	"outlaw/dag"
	"outlaw/event"
	"outlaw/power"
	"outlaw/resolve"
)

const (
	alice = "@a:s"
	bob   = "@b:s"
	carol = "@c:s"
)

func empty() api.Json { return api.Json{Kind: api.JsonObject} }

// some is a body that is not empty.
func some() api.Json {
	return api.Json{Kind: api.JsonObject, Keys: []string{"a"}, Items: []api.Json{{Kind: api.JsonNull}}}
}

func message(id, sender string, ts int64, prev ...string) api.Event {
	return api.Event{ID: id, Room: "!r:s", Sender: sender, Type: "m", TS: ts, Prev: prev, Body: empty()}
}

func state(id, sender string, ts int64, typ, key string, body api.Json, prev ...string) api.Event {
	e := message(id, sender, ts, prev...)
	e.Type, e.State, e.Key, e.Body = typ, true, key, body
	return e
}

func create() api.Event {
	body, _ := content.CreateBody(alice)
	return state("$create", alice, 0, api.TypeCreate, "", body)
}

func member(id, sender, user string, ts int64, membership int, prev ...string) api.Event {
	body, _ := content.MemberBody(membership)
	return state(id, sender, ts, api.TypeMember, user, body, prev...)
}

func redaction(id, sender, of string, ts int64, prev ...string) api.Event {
	e := message(id, sender, ts, prev...)
	e.Type, e.Redacts = api.TypeRedaction, of
	return e
}

// begun is a room with alice, who made it, and bob; what follows comes after $jb.
func begun(more ...api.Event) []api.Event {
	l := []api.Event{create(), member("$ja", alice, alice, 1, api.MemberJoin, "$create"), member("$jb", bob, bob, 2, api.MemberJoin, "$ja")}
	return append(l, more...)
}

func msg(id, sender string, redacted bool) api.Message {
	return api.Message{ID: id, Sender: sender, Type: "m", Redacted: redacted}
}

func entryBody(t *testing.T, r api.Resolved, key string) []string {
	t.Helper()
	e, is := auth.Find(r.State, "rule", key)
	if !is || e.Body.Kind != api.JsonObject {
		t.Fatalf("no entry %s: %v", key, e)
	}
	return e.Body.Keys
}

func TestP14_1Result(t *testing.T) {
	r := resolve.Of(begun(
		message("$m1", bob, 10, "$jb"), message("$m2", carol, 11, "$m1"), state("$r", alice, 12, "rule", "k", some(), "$jb"), message("$m3", alice, 9, "$m1"),
		state("$no", bob, 13, "rule", "l", some(), "$jb"), member("$ban", alice, carol, 14, api.MemberBan, "$jb"), member("$jc", carol, carol, 15, api.MemberJoin, "$ban"), message("$held", alice, 3, "$x"), create(),
	))
	if !slices.Equal(r.Order, []string{"$create", "$ja", "$jb", "$m1", "$m3", "$m2", "$r", "$no", "$ban", "$jc"}) {
		t.Error("Order", r.Order)
	}
	if !slices.Equal(r.Refused, []api.Refusal{{ID: "$m2", Why: api.WhySender}, {ID: "$no", Why: api.WhyLevel}, {ID: "$jc", Why: api.WhyBanned}}) {
		t.Error("Refused", r.Refused)
	}
	if !slices.Equal(r.Messages, []api.Message{msg("$m1", bob, false), msg("$m3", alice, false)}) {
		t.Error("Messages", r.Messages)
	}
	if r.State.Creator != alice || r.State.CreateID != "$create" || auth.Membership(r.State, carol) != api.MemberBan || auth.Membership(r.State, bob) != api.MemberJoin || len(r.State.Entries) != 1 || !slices.Equal(entryBody(t, r, "k"), []string{"a"}) {
		t.Error("State", r.State)
	}
	if got := resolve.Of(nil); !resolve.Same(got, api.Resolved{}) {
		t.Error(got)
	}
}

func TestP14_1Redactions(t *testing.T) {
	rule := state("$r", alice, 10, "rule", "k", some(), "$jb")
	other := state("$r2", alice, 11, "rule", "k", some(), "$r")
	mb := message("$mb", bob, 10, "$jb")
	for i, x := range []struct {
		l        []api.Event
		body     int // the number of keys in the rule's body, -1 if there is no rule
		messages []api.Message
		refused  []api.Refusal
	}{
		{begun(rule), 1, nil, nil},
		{begun(rule, redaction("$x", alice, "$r", 20, "$r")), 0, nil, nil},
		{begun(rule, redaction("$x", bob, "$r", 20, "$r")), 1, nil, []api.Refusal{{ID: "$x", Why: api.WhyRedact}}},
		{begun(rule, other, redaction("$x", alice, "$r", 20, "$r2")), 1, nil, nil},
		{begun(rule, other, redaction("$x", alice, "$r2", 20, "$r2")), 0, nil, nil},
		{begun(rule, redaction("$x", alice, "$r2", 20, "$r"), state("$r2", alice, 30, "rule", "k", some(), "$x")), 0, nil, nil},
		{begun(mb, redaction("$x", bob, "$mb", 20, "$mb")), -1, []api.Message{msg("$mb", bob, true)}, nil},
		{begun(mb, redaction("$x", alice, "$mb", 20, "$mb")), -1, []api.Message{msg("$mb", bob, true)}, nil},
		{begun(mb, redaction("$x", bob, "$mb", 9, "$jb")), -1, []api.Message{msg("$mb", bob, false)}, []api.Refusal{{ID: "$x", Why: api.WhyRedact}}},
		{begun(mb, redaction("$x", alice, "$mb", 9, "$jb")), -1, []api.Message{msg("$mb", bob, true)}, nil},
		{begun(mb, message("$ma", alice, 11, "$mb"), redaction("$x", bob, "$ma", 20, "$ma")), -1, []api.Message{msg("$mb", bob, false), msg("$ma", alice, false)}, []api.Refusal{{ID: "$x", Why: api.WhyRedact}}},
		{begun(message("$mc", carol, 10, "$jb"), redaction("$x", alice, "$mc", 20, "$mc")), -1, nil, []api.Refusal{{ID: "$mc", Why: api.WhySender}}},
		{begun(member("$jc", carol, carol, 9, api.MemberJoin, "$jb"), redaction("$x", bob, "$ja", 20, "$jc")), -1, nil, []api.Refusal{{ID: "$x", Why: api.WhyRedact}}},
		{begun(redaction("$x", alice, "$jb", 20, "$jb"), message("$mb", bob, 21, "$x")), -1, []api.Message{msg("$mb", bob, false)}, nil},
		{begun(redaction("$x", alice, "$nothing", 20, "$jb")), -1, nil, nil},
		{begun(mb, redaction("$x", bob, "$mb", 20, "$mb"), redaction("$y", alice, "$x", 21, "$x")), -1, []api.Message{msg("$mb", bob, true)}, nil},
		{begun(mb, redaction("$x", bob, "$mb", 20, "$mb", "$z")), -1, []api.Message{msg("$mb", bob, false)}, nil},
	} {
		r := resolve.Of(x.l)
		if !slices.Equal(r.Messages, x.messages) || !slices.Equal(r.Refused, x.refused) {
			t.Errorf("%d: messages %v, refused %v", i, r.Messages, r.Refused)
		}
		if x.body >= 0 && len(entryBody(t, r, "k")) != x.body || x.body < 0 && len(r.State.Entries) > 0 {
			t.Errorf("%d: entries %v", i, r.State.Entries)
		}
		if auth.Membership(r.State, alice) != api.MemberJoin || auth.Membership(r.State, bob) != api.MemberJoin || r.State.Creator != alice {
			t.Errorf("%d: creation and members are not affected", i)
		}
	}
}

// The sender of a rejected event is not known to a redaction of it.
func TestP14_1RedactionOfRejected(t *testing.T) {
	strict := state("$no", bob, 10, "rule", "k", some(), "$jb")
	r := resolve.Of(begun(strict, redaction("$x", bob, "$no", 20, "$no")))
	if !slices.Equal(r.Refused, []api.Refusal{{ID: "$no", Why: api.WhyLevel}, {ID: "$x", Why: api.WhyRedact}}) {
		t.Error(r.Refused)
	}
}

func TestP14_1LevelsAreNotRedacted(t *testing.T) {
	l := power.Default(alice)
	l.Ban = 70
	body, _ := content.LevelsBody(l)
	r := resolve.Of(begun(state("$pl", alice, 10, api.TypeLevels, "", body, "$jb"), redaction("$x", alice, "$pl", 20, "$pl"), redaction("$y", alice, "$create", 21, "$x")))
	if len(r.Refused) > 0 || r.State.Levels.Ban != 70 || r.State.LevelsID != "$pl" || r.State.CreateID != "$create" {
		t.Error(r)
	}
}

func TestP14_1RefusedAndAccepted(t *testing.T) {
	r := api.Resolved{Order: []string{"$a", "$b", "$c", "$d"}, Refused: []api.Refusal{{ID: "$b", Why: 3}, {ID: "$b", Why: 4}, {ID: "$c", Why: api.WhyNone}, {ID: "$e", Why: 5}}}
	for id, want := range map[string]int{"$a": 0, "$b": 3, "$c": 0, "$d": 0, "$e": 5, "": 0, "$f": 0} {
		if got := resolve.Refused(r, id); got != want {
			t.Errorf("Refused(%s) = %d", id, got)
		}
	}
	for id, want := range map[string]bool{"$a": true, "$b": false, "$c": false, "$d": true, "$e": false, "": false, "$f": false} {
		if got := resolve.Accepted(r, id); got != want {
			t.Errorf("Accepted(%s) = %v", id, got)
		}
	}
}

func TestP14_2SameAndCopy(t *testing.T) {
	l := []api.Resolved{
		{}, {State: api.State{Creator: alice}}, {Messages: []api.Message{{ID: "$a"}}}, {Messages: []api.Message{{ID: "$b"}}}, {Messages: []api.Message{{ID: "$a", Sender: alice}}}, {Messages: []api.Message{{ID: "$a", Type: "m"}}}, {Messages: []api.Message{{ID: "$a", Redacted: true}}},
		{Refused: []api.Refusal{{ID: "$a"}}}, {Refused: []api.Refusal{{ID: "$a", Why: 1}}}, {Refused: []api.Refusal{{ID: "$a"}, {ID: "$a"}}}, {Order: []string{"$a"}}, {Order: []string{"$a", "$b"}}, {Order: []string{"$b", "$a"}}, {State: api.State{Entries: []api.Entry{{Body: api.Json{Kind: 55}}}}},
	}
	for i, a := range l {
		for j, b := range l {
			if got := resolve.Same(a, resolve.Copy(b)); got != (i == j) {
				t.Errorf("Same of %d and %d is %v", i, j, got)
			}
		}
	}
	if !resolve.Same(api.Resolved{Messages: []api.Message{}, Refused: []api.Refusal{}, Order: []string{}}, api.Resolved{}) {
		t.Error("a nil slice and an empty one are the same")
	}
	r := resolve.Of(begun(state("$r", alice, 10, "rule", "k", some(), "$jb"), message("$m", bob, 11, "$jb"), message("$no", carol, 12, "$jb")))
	keep := fmt.Sprint(r)
	c := resolve.Copy(r)
	c.State.Entries[0].Body.Keys[0], c.State.Members[0].User, c.Messages[0].ID, c.Refused[0].ID, c.Order[0] = "ruined", "ruined", "ruined", "ruined", "ruined"
	if fmt.Sprint(r) != keep {
		t.Error("the copy shares memory with the result")
	}
}

// naive resolves as the document describes it, step by step.
func naive(l []api.Event) api.Resolved {
	var r api.Resolved
	placed := dag.Placed(l)
	senders := map[string]string{}
	named := map[string]bool{}
	for _, e := range placed {
		s, why := auth.Step(r.State, e, senders[e.Redacts])
		r.Order = append(r.Order, e.ID)
		if why != api.WhyNone {
			r.Refused = append(r.Refused, api.Refusal{ID: e.ID, Why: why})
			continue
		}
		r.State = s
		senders[e.ID] = e.Sender
		if event.Redaction(e) {
			named[e.Redacts] = true
		}
	}
	for _, e := range placed {
		if _, is := senders[e.ID]; is && !e.State && !event.Redaction(e) {
			r.Messages = append(r.Messages, api.Message{ID: e.ID, Sender: e.Sender, Type: e.Type, Redacted: named[e.ID]})
		}
	}
	for i := range r.State.Entries {
		if named[r.State.Entries[i].ID] {
			r.State.Entries[i].Body = empty()
		}
	}
	return r
}

func someEvents(r *rand.Rand) []api.Event {
	l := begun()
	for i := range 15 {
		id, who := "$"+strconv.Itoa(i), []string{alice, alice, bob, carol}[r.Intn(4)]
		prev := "$jb"
		if i > 0 && r.Intn(2) == 0 {
			prev = "$" + strconv.Itoa(r.Intn(i))
		} else if r.Intn(9) == 0 {
			prev = "$lost"
		}
		ts := int64(10 + r.Intn(20))
		of := "$" + strconv.Itoa(r.Intn(15))
		l = append(l, []api.Event{
			message(id, who, ts, prev), state(id, who, ts, "rule", []string{"k", "l"}[r.Intn(2)], some(), prev), redaction(id, who, of, ts, prev), redaction(id, who, of, ts, prev),
			member(id, who, []string{bob, carol}[r.Intn(2)], ts, 1+r.Intn(4), prev), member(id, carol, carol, ts, api.MemberJoin, prev),
		}[r.Intn(6)])
	}
	return l
}

func TestP14_1AndP14_3(t *testing.T) {
	r := rand.New(rand.NewSource(20))
	redacted := 0
	for range 300 {
		l := someEvents(r)
		got := resolve.Of(l)
		if want := naive(l); !resolve.Same(got, want) {
			t.Fatalf("Of = %v, want %v", got, want)
		}
		m := append(slices.Clone(l), l[:r.Intn(len(l)+1)]...)
		r.Shuffle(len(m), func(i, j int) { m[i], m[j] = m[j], m[i] })
		if !resolve.Same(got, resolve.Of(m)) {
			t.Fatal("the order of the list matters")
		}
		held := dag.Held(l)
		m = slices.DeleteFunc(m, func(e api.Event) bool { return slices.Contains(held, e.ID) })
		if !resolve.Same(got, resolve.Of(m)) {
			t.Fatal("what is held has an effect")
		}
		for _, x := range got.Messages {
			if x.Redacted {
				redacted++
			}
		}
		for _, e := range l {
			placed := slices.Contains(got.Order, e.ID)
			if resolve.Accepted(got, e.ID) != (placed && resolve.Refused(got, e.ID) == api.WhyNone) {
				t.Fatal("Accepted", e.ID)
			}
		}
	}
	if redacted < 50 {
		t.Errorf("only %d messages were redacted", redacted)
	}
}
