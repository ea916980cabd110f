package auth_test

import (
	"fmt"
	"math/rand"
	"slices"
	"strconv"
	"strings"
	"testing"

	"outlaw/api"
	"outlaw/auth"
	"outlaw/content"
	"outlaw/event"
	"outlaw/power"
)

const (
	alice = "@a:s"
	bob   = "@b:s"
	carol = "@c:s"
	dave  = "@d:s"
)

func empty() api.Json { return api.Json{Kind: api.JsonObject} }

func object(key string, x api.Json) api.Json {
	return api.Json{Kind: api.JsonObject, Keys: []string{key}, Items: []api.Json{x}}
}

func text(s string) api.Json { return api.Json{Kind: api.JsonText, Text: s} }

func message(id, sender, typ string) api.Event {
	return api.Event{ID: id, Room: "!r:s", Sender: sender, Type: typ, TS: 1, Body: empty()}
}

func state(id, sender, typ, key string, body api.Json) api.Event {
	e := message(id, sender, typ)
	e.State, e.Key, e.Body = true, key, body
	return e
}

func create(id, sender string) api.Event {
	body, _ := content.CreateBody(sender)
	return state(id, sender, api.TypeCreate, "", body)
}

func member(id, sender, user string, membership int) api.Event {
	body, _ := content.MemberBody(membership)
	return state(id, sender, api.TypeMember, user, body)
}

func levels(id, sender string, l api.Levels) api.Event {
	body, _ := content.LevelsBody(l)
	return state(id, sender, api.TypeLevels, "", body)
}

func redaction(id, sender, of string) api.Event {
	e := message(id, sender, api.TypeRedaction)
	e.Redacts = of
	return e
}

// after is the state after events that must be accepted.
func after(t *testing.T, s api.State, l ...api.Event) api.State {
	t.Helper()
	for _, e := range l {
		var why int
		if s, why = auth.Step(s, e, ""); why != api.WhyNone {
			t.Fatalf("%v is rejected: %d", e, why)
		}
	}
	return s
}

// usual is a room with alice, who made it, bob, who is joined, carol, who is banned, and dave, who is not there.
func usual(t *testing.T) api.State {
	t.Helper()
	return after(t, api.State{}, create("$create", alice), member("$ja", alice, alice, api.MemberJoin), member("$jb", bob, bob, api.MemberJoin), member("$bc", alice, carol, api.MemberBan))
}

// ranked is the usual room with levels: alice 100, bob 50, eve and frank joined with 50 and 40.
func ranked(t *testing.T) api.State {
	t.Helper()
	l := power.Default(alice)
	l.Users = append(l.Users, api.UserLevel{User: bob, N: 50}, api.UserLevel{User: "@e:s", N: 50}, api.UserLevel{User: "@f:s", N: 40})
	l.Invite, l.Kick, l.Redact = 45, 45, 60
	return after(t, usual(t), member("$je", "@e:s", "@e:s", api.MemberJoin), member("$jf", "@f:s", "@f:s", api.MemberJoin), levels("$pl", alice, l))
}

type trial struct {
	name string
	e    api.Event
	of   string
	want int
}

func try(t *testing.T, s api.State, l []trial) {
	t.Helper()
	before := auth.Copy(s)
	for _, x := range l {
		got, why := auth.Step(s, x.e, x.of)
		if why != x.want {
			t.Errorf("%s: %d, want %d", x.name, why, x.want)
		}
		if why != api.WhyNone && !auth.Same(got, s) {
			t.Errorf("%s: rejected, but the state changes", x.name)
		}
		if !auth.Same(s, before) {
			t.Fatalf("%s: the argument was changed", x.name)
		}
	}
}

func with(e api.Event, do func(e *api.Event)) api.Event {
	do(&e)
	return e
}

func TestP13_1Create(t *testing.T) {
	good := create("$1", alice)
	try(t, api.State{}, []trial{
		{"a creation", good, "", 0},
		{"not valid", with(good, func(e *api.Event) { e.TS = -1 }), "", api.WhyEvent},
		{"no state", with(good, func(e *api.Event) { e.State = false }), "", api.WhyCreate},
		{"a key", with(good, func(e *api.Event) { e.Key = "k" }), "", api.WhyCreate},
		{"one before", with(good, func(e *api.Event) { e.Prev = []string{"$0"} }), "", api.WhyCreate},
		{"another creator", with(good, func(e *api.Event) { e.Sender = bob }), "", api.WhyCreate},
		{"no creator", with(good, func(e *api.Event) { e.Body = empty() }), "", api.WhyCreate},
		{"no user", with(good, func(e *api.Event) { e.Body = object("creator", text("a")) }), "", api.WhyCreate},
	})
	s, _ := auth.Step(api.State{}, good, "")
	if !auth.Same(s, api.State{Creator: alice, CreateID: "$1"}) {
		t.Errorf("%v", s)
	}
	try(t, s, []trial{{"a second creation", create("$2", bob), "", api.WhyCreate}, {"the same again", good, "", api.WhyCreate}})
}

func TestP13_1NoCreate(t *testing.T) {
	l, _ := content.LevelsBody(power.Default(alice))
	try(t, api.State{}, []trial{
		{"a member", member("$1", alice, alice, api.MemberJoin), "", api.WhyNoCreate}, {"no member", state("$1", alice, api.TypeMember, "x", empty()), "", api.WhyNoCreate}, {"levels", state("$1", alice, api.TypeLevels, "", l), "", api.WhyNoCreate},
		{"no levels", state("$1", alice, api.TypeLevels, "k", empty()), "", api.WhyNoCreate}, {"a redaction", redaction("$1", alice, "$2"), alice, api.WhyNoCreate}, {"state", state("$1", alice, "t", "", empty()), "", api.WhyNoCreate},
		{"a message", message("$1", alice, "t"), "", api.WhyNoCreate}, {"not valid", message("1", alice, "t"), "", api.WhyEvent},
	})
}

func TestP13_1MemberBody(t *testing.T) {
	good := member("$1", alice, bob, api.MemberBan)
	try(t, usual(t), []trial{
		{"no state", with(good, func(e *api.Event) { e.State, e.Key = false, "" }), "", api.WhyBody}, {"no user", with(good, func(e *api.Event) { e.Key = "b" }), "", api.WhyBody}, {"no key", with(good, func(e *api.Event) { e.Key = "" }), "", api.WhyBody},
		{"a room", with(good, func(e *api.Event) { e.Key = "!r:s" }), "", api.WhyBody}, {"no membership", with(good, func(e *api.Event) { e.Body = empty() }), "", api.WhyBody}, {"an unknown one", with(good, func(e *api.Event) { e.Body = object("membership", text("knock")) }), "", api.WhyBody},
		{"no body by one who is not joined", with(good, func(e *api.Event) { e.Body, e.Sender = empty(), dave }), "", api.WhyBody}, {"not valid", with(good, func(e *api.Event) { e.Body = api.Json{} }), "", api.WhyEvent},
	})
}

func TestP13_1Members(t *testing.T) {
	invite, join, leave, ban := api.MemberInvite, api.MemberJoin, api.MemberLeave, api.MemberBan
	m := func(sender, user string, membership int) api.Event { return member("$1", sender, user, membership) }
	s := after(t, ranked(t), m(bob, "@i:s", invite), m("@l:s", "@l:s", join), m("@l:s", "@l:s", leave))
	try(t, s, []trial{
		{"joins", m(dave, dave, join), "", 0}, {"joins again", m(bob, bob, join), "", 0}, {"joins after leaving", m("@l:s", "@l:s", join), "", 0}, {"joins when invited", m("@i:s", "@i:s", join), "", 0},
		{"makes another one join", m(alice, dave, join), "", api.WhyTarget}, {"makes a banned one join", m(alice, carol, join), "", api.WhyTarget}, {"joins when banned", m(carol, carol, join), "", api.WhyBanned},
		{"invites", m(bob, dave, invite), "", 0}, {"invites one who left", m(alice, "@l:s", invite), "", 0}, {"invites again", m(alice, "@i:s", invite), "", 0},
		{"invites without being there", m(dave, "@x:s", invite), "", api.WhySender}, {"invites when banned", m(carol, dave, invite), "", api.WhySender}, {"invites a banned one", m(alice, carol, invite), "", api.WhyBanned},
		{"invites a banned one below the level", m("@f:s", carol, invite), "", api.WhyBanned}, {"invites one who is there", m(alice, bob, invite), "", api.WhyTarget}, {"invites one who is there below the level", m("@f:s", bob, invite), "", api.WhyTarget},
		{"invites oneself", m(bob, bob, invite), "", api.WhyTarget}, {"invites below the level", m("@f:s", dave, invite), "", api.WhyLevel}, {"invites a banned one without being there", m(dave, carol, invite), "", api.WhySender},
		{"leaves", m(bob, bob, leave), "", 0}, {"declines", m("@i:s", "@i:s", leave), "", 0}, {"leaves without being there", m(dave, dave, leave), "", api.WhyTarget}, {"leaves twice", m("@l:s", "@l:s", leave), "", api.WhyTarget},
		{"leaves when banned", m(carol, carol, leave), "", api.WhyTarget},
		{"kicks", m(bob, "@f:s", leave), "", 0}, {"kicks one who is invited", m(bob, "@i:s", leave), "", 0}, {"kicks one of the same level", m(bob, "@e:s", leave), "", api.WhyLevel}, {"kicks one above", m(bob, alice, leave), "", api.WhyLevel},
		{"kicks below the level", m("@f:s", "@i:s", leave), "", api.WhyLevel}, {"kicks one who is not there", m(bob, dave, leave), "", api.WhyTarget}, {"kicks one who left", m(alice, "@l:s", leave), "", api.WhyTarget},
		{"kicks one who is not there below the level", m("@f:s", dave, leave), "", api.WhyTarget}, {"kicks without being there", m(dave, "@f:s", leave), "", api.WhySender}, {"kicks one who is not there without being there", m(dave, "@x:s", leave), "", api.WhySender},
		{"lifts a ban", m(bob, carol, leave), "", 0}, {"lifts a ban below the level", m("@f:s", carol, leave), "", api.WhyLevel}, {"lifts a ban without being there", m(dave, carol, leave), "", api.WhySender},
		{"bans", m(bob, "@f:s", ban), "", 0}, {"bans one who is not there", m(bob, dave, ban), "", 0}, {"bans again", m(bob, carol, ban), "", 0}, {"bans one of the same level", m(bob, "@e:s", ban), "", api.WhyLevel}, {"bans one above", m(bob, alice, ban), "", api.WhyLevel},
		{"bans oneself", m(alice, alice, ban), "", api.WhyLevel}, {"bans below the level", m("@f:s", dave, ban), "", api.WhyLevel}, {"bans without being there", m(dave, "@f:s", ban), "", api.WhySender}, {"bans when banned", m(carol, "@f:s", ban), "", api.WhySender},
		{"bans when invited", m("@i:s", dave, ban), "", api.WhySender}, {"bans after leaving", m("@l:s", dave, ban), "", api.WhySender},
	})
}

// Kicks need the level to kick, lifted bans that to ban, each above the user.
func TestP13_1KickAndBanLevels(t *testing.T) {
	s := usual(t)
	set := func(ban, kick, invite, b, c int64) api.State {
		s := auth.Copy(s)
		s.LevelsID = "$pl"
		s.Levels = api.Levels{Ban: ban, Kick: kick, Invite: invite, Users: []api.UserLevel{{User: bob, N: b}, {User: carol, N: c}, {User: dave, N: c}}}
		s.Members = append(s.Members, api.Member{User: dave, Membership: api.MemberJoin})
		return s
	}
	for i, x := range []struct {
		s                       api.State
		lift, kick, ban, invite int
	}{
		{set(10, 20, 0, 15, 0), 0, api.WhyLevel, 0, 0}, {set(20, 10, 0, 15, 0), api.WhyLevel, 0, api.WhyLevel, 0}, {set(15, 15, 15, 15, 14), 0, 0, 0, 0}, {set(15, 15, 16, 15, 15), api.WhyLevel, api.WhyLevel, api.WhyLevel, api.WhyLevel},
		{set(16, 16, 15, 15, 0), api.WhyLevel, api.WhyLevel, api.WhyLevel, 0},
	} {
		try(t, x.s, []trial{
			{"lift " + strconv.Itoa(i), member("$1", bob, carol, api.MemberLeave), "", x.lift}, {"kick " + strconv.Itoa(i), member("$1", bob, dave, api.MemberLeave), "", x.kick},
			{"ban " + strconv.Itoa(i), member("$1", bob, dave, api.MemberBan), "", x.ban}, {"invite " + strconv.Itoa(i), member("$1", bob, "@x:s", api.MemberInvite), "", x.invite},
		})
	}
}

func TestP13_1Levels(t *testing.T) {
	s := ranked(t)
	now := auth.Levels(s)
	lower := now
	lower.Ban = 40
	higher := now
	higher.Ban = 60
	good := levels("$1", bob, lower)
	try(t, s, []trial{
		{"levels", good, "", 0}, {"no state", with(good, func(e *api.Event) { e.State = false }), "", api.WhyBody}, {"a key", with(good, func(e *api.Event) { e.Key = "k" }), "", api.WhyBody}, {"another body", with(good, func(e *api.Event) { e.Body = object("ban", text("x")) }), "", api.WhyBody},
		{"without being there", levels("$1", dave, lower), "", api.WhySender}, {"when banned", with(levels("$1", carol, lower), func(e *api.Event) { e.Key = "k" }), "", api.WhySender}, {"may not be sent", levels("$1", "@f:s", now), "", api.WhyLevel}, {"may not be changed", levels("$1", bob, higher), "", api.WhyLevel},
		{"may be changed", levels("$1", alice, higher), "", 0}, {"no change", levels("$1", bob, now), "", 0},
	})
	got := after(t, s, good)
	want := auth.Copy(s)
	want.Levels, want.LevelsID = lower, "$1"
	if !auth.Same(got, want) || !content.SameLevels(auth.Levels(got), lower) {
		t.Errorf("%v", got)
	}
	first := usual(t)
	if l := auth.Levels(first); !content.SameLevels(l, power.Default(alice)) {
		t.Error("the levels of the creator are in force", l)
	}
	try(t, first, []trial{{"by the creator", levels("$1", alice, power.Default(alice)), "", 0}, {"by another one", levels("$1", bob, power.Default(alice)), "", api.WhyLevel}})
	odd := auth.Copy(first)
	odd.Levels.Ban = 7
	if l := auth.Levels(odd); !content.SameLevels(l, power.Default(alice)) {
		t.Error("without LevelsID the levels of the state do not count")
	}
	odd.Creator = "nobody"
	if l := auth.Levels(odd); !content.SameLevels(l, power.Default("")) {
		t.Error("without a creator nobody has a level")
	}
}

func TestP13_1Redactions(t *testing.T) {
	s := ranked(t)
	l := auth.Levels(s)
	l.Events = []api.TypeLevel{{Type: api.TypeRedaction, N: 45}}
	strict := after(t, s, levels("$1", alice, l))
	try(t, s, []trial{
		{"by one who may", redaction("$2", alice, "$m"), "", 0}, {"one's own", redaction("$2", bob, "$m"), bob, 0}, {"another one's", redaction("$2", bob, "$m"), alice, api.WhyRedact}, {"of what is not known", redaction("$2", bob, "$m"), "", api.WhyRedact},
		{"without being there", redaction("$2", dave, "$m"), dave, api.WhySender}, {"not valid", redaction("$2", alice, "m"), "", api.WhyEvent},
	})
	try(t, strict, []trial{
		{"may not be sent", redaction("$2", "@f:s", "$m"), "@f:s", api.WhyLevel}, {"may not be sent, nor done", redaction("$2", "@f:s", "$m"), "", api.WhyLevel}, {"may be sent", redaction("$2", bob, "$m"), bob, 0},
	})
	if got := after(t, s, redaction("$2", alice, "$ja")); !auth.Same(got, s) {
		t.Error("a redaction changes the state")
	}
	asState := state("$2", alice, api.TypeRedaction, "", empty())
	if got := after(t, s, asState); len(got.Entries) != 1 || got.Entries[0].Type != api.TypeRedaction {
		t.Error("with State it is no redaction")
	}
}

func TestP13_1OtherEvents(t *testing.T) {
	s := ranked(t)
	l := auth.Levels(s)
	l.EventsDefault, l.StateDefault, l.Events = 45, 60, []api.TypeLevel{{Type: "high", N: 70}, {Type: "low", N: 0}}
	s = after(t, s, levels("$1", alice, l))
	try(t, s, []trial{
		{"a message", message("$2", bob, "t"), "", 0}, {"below the level", message("$2", "@f:s", "t"), "", api.WhyLevel}, {"without being there", message("$2", dave, "t"), "", api.WhySender}, {"when banned", message("$2", carol, "low"), "", api.WhySender},
		{"of a low type", message("$2", "@f:s", "low"), "", 0}, {"of a high type", message("$2", bob, "high"), "", api.WhyLevel}, {"of a high type by alice", message("$2", alice, "high"), "", 0},
		{"state", state("$2", alice, "t", "k", empty()), "", 0}, {"state below the level", state("$2", bob, "t", "k", empty()), "", api.WhyLevel}, {"state without being there", state("$2", dave, "low", "k", empty()), "", api.WhySender},
		{"state of one's own", state("$2", bob, "low", bob, empty()), "", 0}, {"state of another one", state("$2", alice, "low", bob, empty()), "", api.WhyTarget}, {"state with an @", state("$2", alice, "low", "@", empty()), "", api.WhyTarget},
		{"state of another one below the level", state("$2", bob, "t", "@x", empty()), "", api.WhyTarget}, {"an @ elsewhere", state("$2", bob, "low", "a@", empty()), "", 0}, {"an ACL", state("$2", alice, api.TypeAcl, "", empty()), "", 0},
	})
	if got := after(t, s, message("$2", bob, "t")); !auth.Same(got, s) {
		t.Error("a message changes the state")
	}
	if got := after(t, s, message("$2", bob, "state"), state("$3", alice, "message", "", empty())); len(got.Entries) != 1 || got.Entries[0].Type != "message" {
		t.Error("any type may be that of state or of a message", got.Entries)
	}
}

// What is accepted changes the state as the document says, and the lists stay sorted.
func TestP13_1Changes(t *testing.T) {
	s := usual(t)
	want := api.State{Creator: alice, CreateID: "$create", Members: []api.Member{{User: alice, Membership: api.MemberJoin, By: alice, ID: "$ja"}, {User: bob, Membership: api.MemberJoin, By: bob, ID: "$jb"}, {User: carol, Membership: api.MemberBan, By: alice, ID: "$bc"}}}
	if !auth.Same(s, want) {
		t.Fatalf("%v", s)
	}
	body := object("z", object("b", text("x")))
	s = after(t, s, member("$1", alice, "@0:s", api.MemberInvite), member("$2", alice, bob, api.MemberBan), member("$3", dave, dave, api.MemberJoin),
		state("$4", alice, "u", "k", empty()), state("$5", alice, "t", "l", body), state("$6", alice, "t", "k", body), state("$7", alice, "u", "", empty()), state("$8", alice, "t", "k", empty()), state("$9", alice, "u", "k", body))
	want.Members = []api.Member{{User: "@0:s", Membership: api.MemberInvite, By: alice, ID: "$1"}, want.Members[0], {User: bob, Membership: api.MemberBan, By: alice, ID: "$2"}, want.Members[2], {User: dave, Membership: api.MemberJoin, By: dave, ID: "$3"}}
	want.Entries = []api.Entry{{Type: "t", Key: "k", ID: "$8", By: alice, Body: empty()}, {Type: "t", Key: "l", ID: "$5", By: alice, Body: body}, {Type: "u", Key: "", ID: "$7", By: alice, Body: empty()}, {Type: "u", Key: "k", ID: "$9", By: alice, Body: body}}
	if !auth.Same(s, want) {
		t.Fatalf("%v", s)
	}
	for user, m := range map[string]int{"@0:s": api.MemberInvite, alice: api.MemberJoin, bob: api.MemberBan, carol: api.MemberBan, dave: api.MemberJoin, "@zz:s": 0, "": 0, "@B:s": 0} {
		if got := auth.Membership(s, user); got != m {
			t.Errorf("Membership(%s) = %d", user, got)
		}
	}
	for _, e := range want.Entries {
		got, is := auth.Find(s, e.Type, e.Key)
		if !is || !auth.Same(api.State{Entries: []api.Entry{got}}, api.State{Entries: []api.Entry{e}}) {
			t.Errorf("Find(%s, %s) = %v, %v", e.Type, e.Key, got, is)
		}
	}
	for _, x := range [][2]string{{"t", ""}, {"u", "l"}, {"v", "k"}, {"", ""}, {"tk", ""}} {
		if got, is := auth.Find(s, x[0], x[1]); is || !auth.Same(api.State{Entries: []api.Entry{got}}, api.State{Entries: []api.Entry{{}}}) {
			t.Errorf("Find(%v) = %v, %v", x, got, is)
		}
	}
}

func TestP13_1SharesNothing(t *testing.T) {
	s := ranked(t)
	l := auth.Levels(s)
	l.Events = []api.TypeLevel{{Type: "q", N: 5}}
	s = after(t, s, levels("$pl2", alice, l))
	body := object("a", object("b", text("x")))
	e := state("$9", alice, "t", "k", body)
	s = after(t, s, state("$8", alice, "s", "", object("a", empty())), e)
	keep := fmt.Sprint(s)
	ruin := func(x api.State) {
		for i := range x.Members {
			x.Members[i] = api.Member{}
		}
		for i := range x.Levels.Users {
			x.Levels.Users[i] = api.UserLevel{}
		}
		for i := range x.Levels.Events {
			x.Levels.Events[i] = api.TypeLevel{}
		}
		for i := range x.Entries {
			x.Entries[i].Body.Keys[0], x.Entries[i].Body.Items[0] = "ruined", text("ruined")
			x.Entries[i].Key = "ruined"
		}
		_, _, _ = append(x.Members, api.Member{User: "spare"}), append(x.Entries, api.Entry{Key: "spare"}), append(x.Levels.Users, api.UserLevel{User: "spare"})
	}
	for _, e := range []api.Event{message("$7", bob, "m"), message("$7", dave, "m"), {}, member("$7", alice, "@0:s", api.MemberInvite), state("$7", alice, "a", "", empty())} {
		got, _ := auth.Step(s, e, "")
		got.Entries = slices.DeleteFunc(got.Entries, func(e api.Entry) bool { return len(e.Body.Keys) == 0 })
		ruin(got)
		if fmt.Sprint(s) != keep {
			t.Fatalf("the state after %v shares memory with the one before", e)
		}
	}
	ruin(auth.Copy(s))
	l = auth.Levels(s)
	l.Users[0].N, l.Events[0].N = 1, 1
	found, _ := auth.Find(s, "t", "k")
	found.Body.Items[0].Keys[0] = "ruined"
	body.Items[0].Keys[0] = "ruined"
	if fmt.Sprint(s) != keep {
		t.Error("a result shares memory with the state, or the state with an event")
	}
}

func TestP13_2Same(t *testing.T) {
	m, u, e := api.Member{User: alice}, api.UserLevel{User: alice}, api.Entry{Type: "t"}
	l := []api.State{
		{}, {Creator: "x"}, {CreateID: "x"}, {LevelsID: "x"}, {Levels: api.Levels{Ban: 1}}, {Levels: api.Levels{Users: []api.UserLevel{u}}}, {Members: []api.Member{m}}, {Members: []api.Member{m, m}}, {Members: []api.Member{{User: bob}}},
		{Members: []api.Member{{User: alice, Membership: 9}}}, {Members: []api.Member{{User: alice, By: "x"}}}, {Members: []api.Member{{User: alice, ID: "x"}}}, {Entries: []api.Entry{e}}, {Entries: []api.Entry{e, e}}, {Entries: []api.Entry{{Type: "u"}}},
		{Entries: []api.Entry{{Type: "t", Key: "x"}}}, {Entries: []api.Entry{{Type: "t", ID: "x"}}}, {Entries: []api.Entry{{Type: "t", By: "x"}}}, {Entries: []api.Entry{{Type: "t", Body: api.Json{Kind: 99}}}}, {Levels: api.Levels{Events: []api.TypeLevel{{Type: "t"}}}},
		{Entries: []api.Entry{{Type: "t", Body: object("a", text("x"))}}}, {Entries: []api.Entry{{Type: "t", Body: object("a", text("y"))}}},
	}
	for i, a := range l {
		for j, b := range l {
			if got := auth.Same(a, auth.Copy(b)); got != (i == j) {
				t.Errorf("Same of %d and %d is %v", i, j, got)
			}
		}
	}
	if !auth.Same(api.State{Members: []api.Member{}, Entries: []api.Entry{}}, api.State{}) {
		t.Error("a nil slice and an empty one are the same")
	}
}

// For states that are not valid all functions return.
func TestP13_1InvalidStates(t *testing.T) {
	r := rand.New(rand.NewSource(18))
	names := []string{alice, bob, carol, "", "\xff", dave}
	for range 3000 {
		var s api.State
		s.Creator = alice
		for range r.Intn(6) {
			s.Members = append(s.Members, api.Member{User: names[r.Intn(6)], Membership: r.Intn(9) - 2})
			s.Entries = append(s.Entries, api.Entry{Type: names[r.Intn(6)], Key: names[r.Intn(6)]})
		}
		auth.Membership(s, names[r.Intn(6)])
		auth.Find(s, names[r.Intn(6)], names[r.Intn(6)])
		auth.Step(s, member("$1", alice, dave, api.MemberBan), "")
		auth.Step(s, state("$1", alice, "t", "k", empty()), "")
	}
}

// reason decides as the document does, rule by rule.
func reason(s api.State, e api.Event, of string) int {
	l := power.Default(s.Creator)
	if s.LevelsID != "" {
		l = s.Levels
	}
	memberOf := func(user string) int {
		for _, m := range s.Members {
			if m.User == user {
				return m.Membership
			}
		}
		return api.MemberNone
	}
	if event.Check(e) != api.OK {
		return api.WhyEvent
	}
	if e.Type == api.TypeCreate {
		creator, _ := content.CreatorOf(e.Body)
		if !e.State || e.Key != "" || s.Creator != "" || len(e.Prev) > 0 || creator != e.Sender {
			return api.WhyCreate
		}
		return api.WhyNone
	}
	if s.Creator == "" {
		return api.WhyNoCreate
	}
	joined := memberOf(e.Sender) == api.MemberJoin
	if e.Type == api.TypeMember {
		wanted, is := content.MemberOf(e.Body)
		if !e.State || !strings.HasPrefix(e.Key, "@") || !is {
			return api.WhyBody
		}
		target := memberOf(e.Key)
		if wanted == api.MemberJoin {
			if e.Key != e.Sender {
				return api.WhyTarget
			}
			if target == api.MemberBan {
				return api.WhyBanned
			}
			return api.WhyNone
		}
		if wanted == api.MemberLeave && e.Key == e.Sender {
			if target != api.MemberJoin && target != api.MemberInvite {
				return api.WhyTarget
			}
			return api.WhyNone
		}
		if !joined {
			return api.WhySender
		}
		above := power.Of(l, e.Sender) > power.Of(l, e.Key)
		switch wanted {
		case api.MemberInvite:
			if target == api.MemberBan {
				return api.WhyBanned
			}
			if target == api.MemberJoin {
				return api.WhyTarget
			}
			if power.Of(l, e.Sender) < l.Invite {
				return api.WhyLevel
			}
		case api.MemberBan:
			if power.Of(l, e.Sender) < l.Ban || !above {
				return api.WhyLevel
			}
		case api.MemberLeave:
			need := l.Kick
			if target == api.MemberBan {
				need = l.Ban
			} else if target != api.MemberJoin && target != api.MemberInvite {
				return api.WhyTarget
			}
			if power.Of(l, e.Sender) < need || !above {
				return api.WhyLevel
			}
		}
		return api.WhyNone
	}
	if !joined {
		return api.WhySender
	}
	send := power.Of(l, e.Sender) >= power.Need(l, e.Type, e.State)
	if e.Type == api.TypeLevels {
		now, is := content.LevelsOf(e.Body)
		if !e.State || e.Key != "" || !is {
			return api.WhyBody
		}
		if !send || !power.Change(l, now, e.Sender) {
			return api.WhyLevel
		}
		return api.WhyNone
	}
	if e.State && strings.HasPrefix(e.Key, "@") && e.Key != e.Sender {
		return api.WhyTarget
	}
	if !send {
		return api.WhyLevel
	}
	if e.Type == api.TypeRedaction && !e.State && power.Of(l, e.Sender) < l.Redact && of != e.Sender {
		return api.WhyRedact
	}
	return api.WhyNone
}

func someEvent(r *rand.Rand, i int) (api.Event, string) {
	who := func() string { return []string{alice, bob, carol, dave}[r.Intn(4)] }
	id := "$" + strconv.Itoa(i)
	of := []string{"", who()}[r.Intn(2)]
	switch r.Intn(10) {
	case 0, 1, 2, 3, 4:
		return member(id, who(), who(), 1+r.Intn(4)), of
	case 5:
		l := api.Levels{}
		for _, n := range []*int64{&l.UsersDefault, &l.EventsDefault, &l.StateDefault, &l.Ban, &l.Kick, &l.Redact, &l.Invite} {
			*n = r.Int63n(3)
		}
		l.Users = []api.UserLevel{{User: alice, N: r.Int63n(5)}, {User: bob, N: r.Int63n(4)}, {User: carol, N: r.Int63n(3)}}
		return levels(id, who(), l), of
	case 6:
		return redaction(id, who(), "$x"), of
	case 7:
		return state(id, who(), []string{"t", "u", api.TypeRedaction, api.TypeAcl}[r.Intn(4)], []string{"", "k", who()}[r.Intn(3)], empty()), of
	case 8:
		e := create(id, who())
		if r.Intn(4) == 0 {
			e.State, e.Type = false, []string{api.TypeMember, api.TypeLevels, api.TypeCreate}[r.Intn(3)]
		}
		return e, of
	}
	e := message(id, who(), "t")
	if r.Intn(8) == 0 {
		e.TS = -1
	}
	return e, of
}

func TestP13_1AndP13_3Walks(t *testing.T) {
	r := rand.New(rand.NewSource(19))
	counts := map[int]int{}
	for range 400 {
		var s api.State
		for i := range 80 {
			e, of := someEvent(r, i)
			if i == 0 || i == 1 {
				e = []api.Event{create("$0", alice), member("$1", alice, alice, api.MemberJoin)}[i]
			}
			next, why := auth.Step(s, e, of)
			if want := reason(s, e, of); why != want {
				t.Fatalf("%v in %v: %d, want %d", e, s, why, want)
			}
			counts[why]++
			if why != api.WhyNone && !auth.Same(s, next) {
				t.Fatal("rejected, but the state changes")
			}
			checkTheorem(t, s, next, e, why)
			s = next
		}
	}
	for why := api.WhyNone; why <= api.WhyRedact; why++ {
		if counts[why] < 20 && why != api.WhyNoCreate {
			t.Errorf("the reason %d occurred only %d times", why, counts[why])
		}
	}
}

func checkTheorem(t *testing.T, s, next api.State, e api.Event, why int) {
	t.Helper()
	for i := 1; i < len(next.Members); i++ {
		if next.Members[i-1].User >= next.Members[i].User {
			t.Fatal("members are not sorted", next.Members)
		}
	}
	for i := 1; i < len(next.Entries); i++ {
		a, b := next.Entries[i-1], next.Entries[i]
		if a.Type > b.Type || a.Type == b.Type && a.Key >= b.Key {
			t.Fatal("entries are not sorted", next.Entries)
		}
	}
	if why == api.WhyNone && e.Type != api.TypeCreate && auth.Membership(s, e.Sender) == api.MemberBan {
		t.Fatal("one who is banned sent", e)
	}
	for _, m := range next.Members {
		if m.Membership == api.MemberBan && auth.Membership(s, m.User) != api.MemberBan {
			if l := auth.Levels(s); !power.May(l, e.Sender, api.PowBan) || !power.Above(l, e.Sender, m.User) || m.By != e.Sender || m.ID != e.ID {
				t.Fatal("a ban without the level", e)
			}
		}
	}
}
