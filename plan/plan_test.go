package plan_test

import (
	"math"
	"math/rand"
	"slices"
	"strconv"
	"strings"
	"testing"

	"outlaw/api"
	"outlaw/auth"
	"outlaw/content"
	"outlaw/event"
	"outlaw/plan"
	"outlaw/power"
	"outlaw/queue"
	"outlaw/target"
)

const (
	room  = "!r:s"
	bot   = "@bot:s"
	alice = "@a:x"
	bob   = "@b:x"
	carol = "@c:x"
)

func member(user string, membership int, by string) api.Member {
	return api.Member{User: user, Membership: membership, By: by, ID: "$" + user[1:2]}
}

// state is that of a room of the bot, with more members.
func state(more ...api.Member) api.State {
	s := api.State{Creator: bot, CreateID: "$c", Members: append([]api.Member{member(bot, api.MemberJoin, bot)}, more...)}
	slices.SortFunc(s.Members, func(a, b api.Member) int { return strings.Compare(a.User, b.User) })
	return s
}

// ranked sets levels in a state.
func ranked(s api.State, do func(l *api.Levels)) api.State {
	l := power.Default(bot)
	do(&l)
	slices.SortFunc(l.Users, func(a, b api.UserLevel) int { return strings.Compare(a.User, b.User) })
	s.Levels, s.LevelsID = l, "$pl"
	return s
}

// with adds an ACL to a state.
func with(s api.State, by string, deny ...string) api.State {
	body, _ := content.AclBody(api.Acl{Allow: []string{"*"}, Deny: deny})
	s.Entries = append(slices.Clone(s.Entries), api.Entry{Type: api.TypeAcl, ID: "$acl", By: by, Body: body})
	return s
}

func ban(user, reason string) api.Ban {
	return api.Ban{User: user, Rule: api.Rule{Kind: 1, Entity: user, Reason: reason}}
}

func doBan(user, reason string) api.Action {
	return api.Action{Kind: api.ActBan, Room: room, Subject: user, Reason: reason}
}

func doUnban(user string) api.Action {
	return api.Action{Kind: api.ActUnban, Room: room, Subject: user}
}

func doAcl(deny string) api.Action { return api.Action{Kind: api.ActAcl, Room: room, Deny: deny} }

func doRedact(id string) api.Action {
	return api.Action{Kind: api.ActRedact, Room: room, Subject: id}
}

func TestP24_1All(t *testing.T) {
	banned := api.MemberBan
	odd := with(state(), bot)
	odd.Entries[0].Body = api.Json{Kind: api.JsonObject, Keys: []string{"deny"}, Items: []api.Json{{Kind: api.JsonText, Text: "x"}}}
	keyed := with(state(), bot, "evil")
	keyed.Entries[0].Key = "k"
	for i, x := range []struct {
		t    api.Target
		s    api.State
		own  []string
		want []api.Action
	}{
		{api.Target{}, state(), nil, nil},
		{api.Target{Bans: []api.Ban{ban(alice, "")}}, state(member(alice, api.MemberJoin, alice), member(bob, banned, bot)), []string{bob}, []api.Action{doBan(alice, ""), doUnban(bob)}},
		{api.Target{Bans: []api.Ban{ban(carol, "x"), ban(alice, "spam"), ban(bob, "")}}, state(member(bob, banned, alice)), nil, []api.Action{doBan(carol, "x"), doBan(alice, "spam")}},
		{api.Target{Bans: []api.Ban{ban(alice, "")}}, state(member(alice, api.MemberLeave, bot)), nil, []api.Action{doBan(alice, "")}},
		{api.Target{}, state(member(alice, banned, bot), member(bob, banned, bot), member(carol, banned, bot)), []string{carol, alice, carol}, []api.Action{doUnban(alice), doUnban(carol)}},
		{api.Target{}, state(member(alice, banned, bob), member(bob, api.MemberJoin, bot), member(carol, api.MemberLeave, bot)), []string{alice, bob, carol, "@d:x"}, nil},
		{api.Target{Bans: []api.Ban{ban(alice, "")}}, state(member(alice, banned, bot)), []string{alice}, nil},
		{api.Target{Deny: []string{"evil", "b*"}}, state(), nil, []api.Action{doAcl("evil b*")}},
		{api.Target{Deny: []string{"evil", "b*"}}, with(state(), alice, "evil", "b*"), nil, nil},
		{api.Target{Deny: []string{"evil", "b*"}}, with(state(), alice, "b*", "evil"), nil, []api.Action{doAcl("evil b*")}},
		{api.Target{Deny: []string{"evil"}}, with(state(), alice), nil, []api.Action{doAcl("evil")}},
		{api.Target{Deny: []string{"evil"}}, with(state(), bot, "evil", "more"), nil, []api.Action{doAcl("evil")}},
		{api.Target{}, with(state(), alice, "evil"), nil, nil},
		{api.Target{}, with(state(), bot, "evil"), nil, []api.Action{doAcl("")}},
		{api.Target{}, with(state(), bot), nil, nil},
		{api.Target{}, odd, nil, nil},
		{api.Target{Deny: []string{"x"}}, odd, nil, []api.Action{doAcl("x")}},
		{api.Target{Deny: []string{"evil"}}, keyed, nil, []api.Action{doAcl("evil")}},
		{api.Target{Redact: []string{"$2", "$1"}}, state(), nil, []api.Action{doRedact("$2"), doRedact("$1")}},
		{api.Target{Bans: []api.Ban{ban(alice, "spam")}, Deny: []string{"evil"}, Redact: []string{"$1"}}, state(member(bob, banned, bot)), []string{bob}, []api.Action{doBan(alice, "spam"), doUnban(bob), doAcl("evil"), doRedact("$1")}},
	} {
		own := slices.Clone(x.own)
		if got := plan.All(room, x.t, api.Resolved{State: x.s}, own, bot); !slices.Equal(got, x.want) {
			t.Errorf("%d: All = %v, want %v", i, got, x.want)
		}
		if !slices.Equal(own, x.own) {
			t.Errorf("%d: an argument was changed", i)
		}
	}
}

func TestP24_1Permitted(t *testing.T) {
	banned := api.MemberBan
	users := func(n, a int64) func(l *api.Levels) {
		return func(l *api.Levels) {
			l.Users = []api.UserLevel{{User: bot, N: n}, {User: alice, N: a}}
		}
	}
	also := func(f func(l *api.Levels), g func(l *api.Levels)) func(l *api.Levels) {
		return func(l *api.Levels) { f(l); g(l) }
	}
	gone := state(member(alice, banned, bot))
	for i, x := range []struct {
		s    api.State
		a    api.Action
		want bool
	}{
		{state(), doBan(alice, ""), true}, {ranked(state(), users(50, 49)), doBan(alice, ""), true}, {ranked(state(), users(49, 0)), doBan(alice, ""), false}, {ranked(state(), users(50, 50)), doBan(alice, ""), false}, {ranked(state(), users(60, 70)), doBan(alice, ""), false}, {state(), doBan(bot, ""), false},
		{ranked(state(), also(users(30, 0), func(l *api.Levels) { l.Ban = 30 })), doBan(alice, ""), true}, {ranked(state(), also(users(60, 0), func(l *api.Levels) { l.Ban = 61 })), doBan(alice, ""), false}, {ranked(state(), also(users(60, 0), func(l *api.Levels) { l.Kick = 99 })), doBan(alice, ""), true},
		{gone, doUnban(alice), true}, {state(), doUnban(alice), false}, {state(member(alice, api.MemberLeave, bot)), doUnban(alice), false}, {state(member(alice, api.MemberJoin, alice)), doUnban(alice), false}, {ranked(gone, users(49, 0)), doUnban(alice), false}, {ranked(gone, users(50, 50)), doUnban(alice), false},
		{ranked(gone, also(users(50, 0), func(l *api.Levels) { l.Kick = 99 })), doUnban(alice), true}, {state(member(alice, banned, bob)), doUnban(alice), true},
		{state(), doAcl("evil"), true}, {state(), doAcl(""), true}, {ranked(state(), users(50, 0)), doAcl("evil"), true}, {ranked(state(), users(49, 0)), doAcl("evil"), false}, {ranked(state(), also(users(20, 0), func(l *api.Levels) { l.StateDefault = 20 })), doAcl("evil"), true},
		{ranked(state(), also(users(60, 0), func(l *api.Levels) { l.Events = []api.TypeLevel{{Type: api.TypeAcl, N: 61}} })), doAcl("evil"), false}, {ranked(state(), also(users(10, 0), func(l *api.Levels) { l.Events = []api.TypeLevel{{Type: api.TypeAcl, N: 10}} })), doAcl("evil"), true},
		{state(), doAcl(strings.Repeat("a ", 99) + "a"), true}, {state(), doAcl(strings.Repeat("a ", 100) + "a"), false}, {state(), doAcl(strings.Repeat(" ", 99)), true}, {state(), doAcl(strings.Repeat(" ", 100)), false}, {state(), doAcl(strings.Repeat("a", 2000)), true}, {state(), doAcl(strings.Repeat("a", 2001)), false},
		{state(), doRedact("$m"), true}, {ranked(state(), users(50, 0)), doRedact("$m"), true}, {ranked(state(), users(49, 0)), doRedact("$m"), false}, {ranked(state(), users(49, 0)), doRedact("$own"), true}, {ranked(state(), users(49, 0)), doRedact("$other"), false},
		{ranked(state(), also(users(60, 0), func(l *api.Levels) { l.EventsDefault = 61 })), doRedact("$own"), false}, {ranked(state(), also(users(60, 0), func(l *api.Levels) { l.Events = []api.TypeLevel{{Type: api.TypeRedaction, N: 61}} })), doRedact("$m"), false},
		{ranked(state(), also(users(60, 0), func(l *api.Levels) { l.Redact = 61 })), doRedact("$m"), false}, {ranked(state(), also(users(60, 0), func(l *api.Levels) { l.Redact = 61 })), doRedact("$own"), true}, {ranked(state(), also(users(10, 0), func(l *api.Levels) { l.Redact, l.EventsDefault = 10, 10 })), doRedact("$m"), true},
		{ranked(state(), also(users(40, 0), func(l *api.Levels) { l.StateDefault = 99 })), doRedact("$own"), true},
		{state(), api.Action{Room: room, Subject: alice}, false}, {state(), api.Action{Kind: 5, Room: room, Subject: alice}, false}, {state(), api.Action{Kind: -1}, false}, {state(), api.Action{Kind: math.MaxInt}, false},
	} {
		r := api.Resolved{State: x.s, Messages: []api.Message{{ID: "$other", Sender: alice}, {ID: "$own", Sender: bot}}}
		if got := plan.Permitted(r, bot, x.a); got != x.want {
			t.Errorf("%d: Permitted(%.80v) = %v", i, x.a, got)
		}
		for _, m := range []int{api.MemberNone, api.MemberInvite, api.MemberLeave, api.MemberBan} {
			r.State = auth.Copy(x.s)
			for j := range r.State.Members {
				if r.State.Members[j].User == bot {
					r.State.Members[j].Membership = m
				}
			}
			if plan.Permitted(r, bot, x.a) {
				t.Errorf("%d: a bot that is not joined may do something", i)
			}
		}
	}
}

func TestP24_1Wants(t *testing.T) {
	s := ranked(state(member(carol, api.MemberBan, bot)), func(l *api.Levels) {
		l.Users = []api.UserLevel{{User: alice, N: 100}, {User: bot, N: 60}}
		l.Redact = 70
	})
	r := api.Resolved{State: s, Messages: []api.Message{{ID: "$1", Sender: bob}, {ID: "$2", Sender: bot}}}
	tg := api.Target{Bans: []api.Ban{ban(alice, ""), ban(bob, "spam")}, Deny: []string{"evil"}, Redact: []string{"$1", "$2"}}
	if got := plan.Wants(room, tg, r, []string{carol}, bot); !slices.Equal(got, []api.Action{doBan(bob, "spam"), doUnban(carol), doAcl("evil"), doRedact("$2")}) {
		t.Error(got)
	}
	if got := plan.Wants(room, tg, r, []string{carol}, "@other:s"); len(got) != 0 {
		t.Error(got)
	}
}

func TestP24_1DeniedAndBanned(t *testing.T) {
	for i, x := range []struct {
		s    api.State
		deny []string
		by   string
		is   bool
	}{
		{state(), nil, "", false}, {with(state(), alice, "a", "b"), []string{"a", "b"}, alice, true}, {with(state(), bot), nil, bot, true}, {api.State{Entries: []api.Entry{{Type: api.TypeAcl, By: bot}}}, nil, "", false},
		{api.State{Entries: []api.Entry{{Type: api.TypeAcl, By: bot, Body: api.Json{Kind: api.JsonObject}}}}, nil, bot, true}, {api.State{Entries: []api.Entry{{Type: api.TypeAcl, Key: "k", By: bot, Body: api.Json{Kind: api.JsonObject}}}}, nil, "", false},
	} {
		if deny, by, is := plan.Denied(x.s); !slices.Equal(deny, x.deny) || by != x.by || is != x.is {
			t.Errorf("%d: Denied = %v, %s, %v", i, deny, by, is)
		}
	}
	s := state(member(carol, api.MemberBan, bot), member(alice, api.MemberBan, bob), member(bob, api.MemberLeave, bot))
	if got := plan.Banned(s); !slices.Equal(got, []string{alice, carol}) {
		t.Error(got)
	}
	if len(plan.Banned(api.State{})) != 0 {
		t.Error("nobody is banned")
	}
}

func TestP24_2Echo(t *testing.T) {
	empty := api.Json{Kind: api.JsonObject}
	banBody, _ := content.MemberBody(api.MemberBan)
	leaveBody, _ := content.MemberBody(api.MemberLeave)
	acl := func(deny ...string) api.Json {
		v, _ := content.AclBody(api.Acl{Allow: []string{"*"}, Deny: deny})
		return v
	}
	base := api.Event{ID: "$1", Room: room, Sender: bot, State: true, TS: 5, Prev: []string{"$p", "$q"}}
	made := func(typ, key string, body api.Json) api.Event {
		e := base
		e.Type, e.Key, e.Body = typ, key, body
		return e
	}
	redaction := made(api.TypeRedaction, "", empty)
	redaction.State, redaction.Redacts = false, "$m"
	for i, x := range []struct {
		a    api.Action
		want api.Event
	}{
		{doBan(alice, "why"), made(api.TypeMember, alice, banBody)}, {doUnban(alice), made(api.TypeMember, alice, leaveBody)}, {doAcl("evil b*"), made(api.TypeAcl, "", acl("evil", "b*"))}, {doAcl(""), made(api.TypeAcl, "", acl())},
		{doAcl("a  b "), made(api.TypeAcl, "", acl("a", "", "b", ""))}, {doRedact("$m"), redaction}, {api.Action{Kind: api.ActAcl, Room: room, Subject: "x", Reason: "y"}, made(api.TypeAcl, "", acl())},
		{api.Action{Kind: api.ActBan, Room: room, Subject: "nobody"}, made(api.TypeMember, "nobody", banBody)},
	} {
		prev := []string{"$p", "$q"}
		e, err := plan.Echo(x.a, bot, "$1", 5, prev)
		if err != api.OK || !event.Same(e, x.want) {
			t.Errorf("%d: Echo = %v, %v", i, e, err)
		}
		prev[0] = "changed"
		if e.Prev[0] != "$p" {
			t.Errorf("%d: the event shares memory with prev", i)
		}
	}
	for i, x := range []struct {
		a    api.Action
		id   string
		ts   int64
		prev []string
		want api.Errno
	}{
		{api.Action{Room: room}, "", -1, nil, api.ErrArg}, {api.Action{Kind: 5, Room: room}, "$1", 0, nil, api.ErrArg}, {api.Action{Kind: -1}, "$1", 0, nil, api.ErrArg}, {doBan(alice, ""), "1", 0, nil, api.ErrID}, {doBan(alice, ""), "$1", -1, nil, api.ErrArg},
		{doBan(alice, ""), "$1", 0, []string{"x"}, api.ErrID}, {doBan(alice, ""), "$1", 0, []string{"$1"}, api.ErrTwice}, {doBan(alice, ""), "$1", 0, make([]string, 9), api.ErrLong}, {api.Action{Kind: api.ActBan, Room: "r"}, "$1", 0, nil, api.ErrID}, {doBan("\xff", ""), "$1", 0, nil, api.ErrText},
		{doBan(strings.Repeat("x", 256), ""), "$1", 0, nil, api.ErrField}, {doRedact("m"), "$1", 0, nil, api.ErrID}, {doAcl(strings.Repeat(strings.Repeat("x", 250)+" ", 17)), "$1", 0, nil, api.ErrLong},
	} {
		if e, err := plan.Echo(x.a, bot, x.id, x.ts, x.prev); err != x.want || !event.Same(e, api.Event{}) {
			t.Errorf("%d: Echo = %v, want %v", i, err, x.want)
		}
	}
	for _, deny := range []string{"\xff", strings.Repeat("x", 256), strings.Repeat("a ", 400)} {
		if e, err := plan.Echo(doAcl(deny), bot, "$1", 0, nil); err == api.OK || !event.Same(e, api.Event{}) {
			t.Errorf("a pattern that no ACL has: %v", err)
		}
	}
	if _, err := plan.Echo(doBan(alice, ""), "nobody", "$1", 0, nil); err != api.ErrID {
		t.Error(err)
	}
}

// world is a room with a target.
type world struct {
	x   api.Resolved
	t   api.Target
	own []string
}

func some(r *rand.Rand) world {
	var w world
	var more []api.Member
	for _, u := range []string{alice, bob, carol, "@d:x"} {
		if r.Intn(4) > 0 {
			more = append(more, member(u, r.Intn(5), []string{bot, alice, bob}[r.Intn(3)]))
		}
		if r.Intn(2) == 0 {
			w.own = append(w.own, u)
		}
		if r.Intn(3) == 0 {
			w.t.Bans = append(w.t.Bans, ban(u, []string{"", "spam"}[r.Intn(2)]))
		}
	}
	s := state(more...)
	if r.Intn(2) == 0 {
		s = ranked(s, func(l *api.Levels) {
			l.Users = []api.UserLevel{{User: bot, N: r.Int63n(4)}, {User: alice, N: r.Int63n(4)}, {User: bob, N: r.Int63n(3)}}
			for _, n := range []*int64{&l.Ban, &l.Kick, &l.Redact, &l.StateDefault, &l.EventsDefault} {
				*n = r.Int63n(4)
			}
		})
	}
	if r.Intn(2) == 0 {
		s = with(s, []string{bot, alice}[r.Intn(2)], []string{"evil", "b*"}[:r.Intn(3)]...)
	}
	w.t.Deny = []string{"evil", "b*", "c"}[:r.Intn(4)]
	for i := range r.Intn(4) {
		id := "$" + strconv.Itoa(i)
		w.x.Messages = append(w.x.Messages, api.Message{ID: id, Sender: []string{bot, alice}[r.Intn(2)]})
		w.t.Redact = append(w.t.Redact, id)
	}
	w.x.State = s
	return w
}

func TestP24_3(t *testing.T) {
	r := rand.New(rand.NewSource(32))
	kinds := map[int]int{}
	for i := range 8000 {
		w := some(r)
		all := plan.All(room, w.t, w.x, w.own, bot)
		wants := plan.Wants(room, w.t, w.x, w.own, bot)
		var want []api.Action
		for j, a := range all {
			if plan.Permitted(w.x, bot, a) {
				want = append(want, a)
			}
			for _, b := range all[:j] {
				if queue.Alike(a, b) {
					t.Fatal("two wanted actions are alike", a, b)
				}
			}
		}
		if !slices.Equal(wants, want) {
			t.Fatalf("Wants = %v, want %v", wants, want)
		}
		s := w.x.State
		for _, a := range wants {
			kinds[a.Kind]++
			e, err := plan.Echo(a, bot, "$new"+strconv.Itoa(i), 5, nil)
			of := ""
			for _, m := range w.x.Messages {
				if m.ID == a.Subject {
					of = m.Sender
				}
			}
			next, why := auth.Step(w.x.State, e, of)
			if err != api.OK || why != api.WhyNone {
				t.Fatalf("%v is rejected: %v, %d, in %v", a, err, why, w.x.State)
			}
			switch a.Kind {
			case api.ActBan, api.ActUnban:
				if auth.Membership(next, a.Subject) != map[int]int{api.ActBan: api.MemberBan, api.ActUnban: api.MemberLeave}[a.Kind] {
					t.Fatal("the membership afterwards")
				}
			case api.ActAcl:
				if deny, by, is := plan.Denied(next); !is || by != bot || !slices.Equal(deny, w.t.Deny) {
					t.Fatal("the ACL afterwards")
				}
			}
			if s, why = auth.Step(s, e, of); why != api.WhyNone {
				t.Fatal("one after the other", a)
			}
		}
		left := plan.Wants(room, api.Target{Bans: w.t.Bans, Deny: w.t.Deny}, api.Resolved{State: s}, w.own, bot)
		if len(left) > 0 {
			t.Fatal("what was done is wanted still", left)
		}
		if len(plan.All(room, w.t, w.x, w.own, bot)) == 0 {
			for _, u := range target.Users(w.t) {
				if !slices.Contains(plan.Banned(w.x.State), u) {
					t.Fatal("nothing is wanted, but one is not banned", u)
				}
			}
			for _, m := range w.x.State.Members {
				if slices.Contains(w.own, m.User) && m.Membership == api.MemberBan && m.By == bot && !slices.Contains(target.Users(w.t), m.User) {
					t.Fatal("nothing is wanted, but a ban is not lifted", m)
				}
			}
		}
	}
	for kind := api.ActBan; kind <= api.ActRedact; kind++ {
		if kinds[kind] < 200 {
			t.Error(kinds)
		}
	}
}
