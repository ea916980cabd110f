package power_test

import (
	"math"
	"math/rand"
	"sort"
	"testing"

	"outlaw/api"
	"outlaw/content"
	"outlaw/power"
)

func users(l ...any) []api.UserLevel {
	var out []api.UserLevel
	for i := 0; i < len(l); i += 2 {
		out = append(out, api.UserLevel{User: l[i].(string), N: int64(l[i+1].(int))})
	}
	return out
}

func types(l ...any) []api.TypeLevel {
	var out []api.TypeLevel
	for i := 0; i < len(l); i += 2 {
		out = append(out, api.TypeLevel{Type: l[i].(string), N: int64(l[i+1].(int))})
	}
	return out
}

// numbers are where the seven numbers are.
func numbers(l *api.Levels) []*int64 {
	return []*int64{&l.UsersDefault, &l.EventsDefault, &l.StateDefault, &l.Ban, &l.Kick, &l.Redact, &l.Invite}
}

func TestP11_1Check(t *testing.T) {
	for i, x := range []struct {
		l    api.Levels
		want api.Errno
	}{
		{api.Levels{}, 0}, {api.Levels{Users: users("@a:s", 1, "@b:S", -1, "@b:s", 0), Events: types("", 1, "\x00\u20acz", 2, "a", 3)}, 0},
		{api.Levels{Users: users("@a:s", api.MostNumber, "@b:s", -api.MostNumber)}, 0}, {api.Levels{Users: users("@a:s", api.MostNumber+1)}, api.ErrArg}, {api.Levels{Users: users("@a:s", 0, "@b:s", -api.MostNumber-1)}, api.ErrArg},
		{api.Levels{Users: users("a", 0)}, api.ErrArg}, {api.Levels{Users: users("", 0)}, api.ErrArg}, {api.Levels{Users: users("@a:s", 0, "@a:s", 0)}, api.ErrArg}, {api.Levels{Users: users("@b:s", 0, "@a:s", 0)}, api.ErrArg},
		{api.Levels{Users: users("@a:s", 0, "@c:s", 0, "@b:s", 0)}, api.ErrArg}, {api.Levels{Users: users("@a:s", 0, "@B:s", 0)}, api.ErrArg},
		{api.Levels{Events: types("a", api.MostNumber, "b", -api.MostNumber)}, 0}, {api.Levels{Events: types("a", api.MostNumber+1)}, api.ErrArg}, {api.Levels{Events: types("a", -api.MostNumber-1)}, api.ErrArg},
		{api.Levels{Events: types("\xff", 0)}, api.ErrArg}, {api.Levels{Events: types("a", 0, "b\xc3", 0)}, api.ErrArg}, {api.Levels{Events: types("a", 0, "a", 0)}, api.ErrArg}, {api.Levels{Events: types("b", 0, "a", 0)}, api.ErrArg}, {api.Levels{Events: types("", 0, "", 1)}, api.ErrArg},
	} {
		if e := power.Check(x.l); e != x.want {
			t.Errorf("%d: Check = %v, want %v", i, e, x.want)
		}
	}
	for i := range 7 {
		for n, want := range map[int64]api.Errno{api.MostNumber: 0, -api.MostNumber: 0, api.MostNumber + 1: api.ErrArg, -api.MostNumber - 1: api.ErrArg, math.MaxInt64: api.ErrArg, math.MinInt64: api.ErrArg} {
			var l api.Levels
			*numbers(&l)[i] = n
			if e := power.Check(l); e != want {
				t.Errorf("number %d is %d: %v", i, n, e)
			}
		}
	}
}

func TestP11_1Default(t *testing.T) {
	want := api.Levels{StateDefault: 50, Ban: 50, Kick: 50, Redact: 50}
	for _, who := range []string{"", "a", "@A:s", "\xff", "s"} {
		if l := power.Default(who); !content.SameLevels(l, want) {
			t.Errorf("Default(%q) = %v", who, l)
		}
	}
	want.Users = users("@a:S", 100)
	if l := power.Default("@a:S"); !content.SameLevels(l, want) || power.Check(l) != api.OK {
		t.Errorf("Default = %v", l)
	}
	l := power.Default("@a:s")
	if !power.May(l, "@a:s", api.PowBan) || power.May(l, "@b:s", api.PowBan) || !power.Send(l, "@b:s", "m", false) || power.Send(l, "@b:s", "m", true) || !power.Send(l, "@a:s", "m", true) {
		t.Error("the example of the document")
	}
}

func TestP11_1OfAndNeed(t *testing.T) {
	l := api.Levels{UsersDefault: 7, StateDefault: 8, EventsDefault: 9, Users: users("@z:s", 1, "@a:s", 2, "@z:s", 3, "@c:s", 4, "", 5, "@a:s", 6), Events: types("z", 1, "a", 2, "z", 3, "", 4, "a", 6)}
	for who, want := range map[string]int64{"@z:s": 1, "@a:s": 2, "@c:s": 4, "": 5, "@b:s": 7, "@A:s": 7, "x": 7} {
		if got := power.Of(l, who); got != want {
			t.Errorf("Of(%q) = %d", who, got)
		}
	}
	for typ, want := range map[string][2]int64{"z": {1, 1}, "a": {2, 2}, "": {4, 4}, "b": {8, 9}, "A": {8, 9}} {
		if state, other := power.Need(l, typ, true), power.Need(l, typ, false); state != want[0] || other != want[1] {
			t.Errorf("Need(%q) = %d, %d", typ, state, other)
		}
	}
}

func TestP11_1MaySendAbove(t *testing.T) {
	l := api.Levels{Invite: 1, Kick: 2, Ban: 3, Redact: 4, UsersDefault: -1, StateDefault: 2, EventsDefault: 1, Users: users("@0:s", 0, "@1:s", 1, "@2:s", 2, "@3:s", 3, "@4:s", 4), Events: types("t", 3)}
	for n, who := range []string{"@0:s", "@1:s", "@2:s", "@3:s", "@4:s"} {
		for act := -2; act < 8; act++ {
			want := act >= 1 && act <= 4 && n >= act
			if got := power.May(l, who, act); got != want {
				t.Errorf("May(%s, %d) = %v", who, act, got)
			}
		}
		if power.Send(l, who, "x", true) != (n >= 2) || power.Send(l, who, "x", false) != (n >= 1) || power.Send(l, who, "t", true) != (n >= 3) || power.Send(l, who, "t", false) != (n >= 3) {
			t.Errorf("Send of %s", who)
		}
		for m, other := range []string{"@0:s", "@1:s", "@2:s", "@3:s", "@4:s"} {
			if got := power.Above(l, who, other); got != (n > m) {
				t.Errorf("Above(%s, %s) = %v", who, other, got)
			}
		}
		if !power.Above(l, who, "@x:s") || power.Above(l, "@x:s", who) {
			t.Errorf("%s and one without an entry", who)
		}
	}
	if power.Above(l, "@x:s", "@y:s") || power.May(l, "@x:s", api.PowInvite) || power.May(l, "@4:s", math.MaxInt) || power.May(l, "@4:s", math.MinInt) || power.Send(l, "@x:s", "x", false) {
		t.Error("the level of everybody else")
	}
	high := api.Levels{UsersDefault: 5}
	if power.May(high, "a", 0) || power.May(high, "a", 5) || !power.May(high, "a", 4) {
		t.Error("acts that do not exist")
	}
}

func TestP11_2Change(t *testing.T) {
	base := api.Levels{StateDefault: 50, EventsDefault: 20, Ban: 50, Kick: 40, Redact: 60, Users: users("@a:s", 100, "@b:s", 50, "@c:s", 50, "@d:s", 10), Events: types("p", 50, "q", 70)}
	for i, x := range []struct {
		who  string
		do   func(l *api.Levels)
		want bool
	}{
		{"@b:s", func(l *api.Levels) {}, true}, {"nobody", func(l *api.Levels) {}, true},
		{"@b:s", func(l *api.Levels) { l.Ban = 30 }, true}, {"@b:s", func(l *api.Levels) { l.Ban = 51 }, false}, {"@b:s", func(l *api.Levels) { l.Redact = 50 }, false}, {"@a:s", func(l *api.Levels) { l.Redact = 100 }, true},
		{"@a:s", func(l *api.Levels) { l.Redact = 101 }, false}, {"@b:s", func(l *api.Levels) { l.Kick = 50 }, true}, {"@d:s", func(l *api.Levels) { l.Kick = 0 }, false}, {"nobody", func(l *api.Levels) { l.Invite = -1 }, true}, {"nobody", func(l *api.Levels) { l.Invite = 1 }, false},
		{"@b:s", func(l *api.Levels) { l.Users[3].N = 50 }, true}, {"@b:s", func(l *api.Levels) { l.Users[3].N = 51 }, false}, {"@b:s", func(l *api.Levels) { l.Users[2].N = 49 }, false}, {"@b:s", func(l *api.Levels) { l.Users[1].N = 49 }, true},
		{"@b:s", func(l *api.Levels) { l.Users[1].N = 51 }, false}, {"@b:s", func(l *api.Levels) { l.Users[0].N = 10 }, false}, {"@a:s", func(l *api.Levels) { l.Users[1].N = 99 }, true}, {"@a:s", func(l *api.Levels) { l.Users[1].N = 100 }, true},
		{"@b:s", func(l *api.Levels) { l.Users = l.Users[:3] }, true}, {"@b:s", func(l *api.Levels) { l.Users = l.Users[1:] }, false}, {"@a:s", func(l *api.Levels) { l.Users = l.Users[1:] }, true}, {"@c:s", func(l *api.Levels) { l.Users = append(l.Users[:1], l.Users[2:]...) }, false},
		{"@b:s", func(l *api.Levels) { l.Users = append(l.Users[:1], l.Users[2:]...) }, true},
		{"@b:s", func(l *api.Levels) { l.Users = append(l.Users, users("@e:s", 50)...) }, true}, {"@b:s", func(l *api.Levels) { l.Users = append(l.Users, users("@e:s", 51)...) }, false}, {"@d:s", func(l *api.Levels) { l.Users = append(l.Users, users("@e:s", 0)...) }, true},
		{"nobody", func(l *api.Levels) { l.Users = append(l.Users, users("@e:s", 0)...) }, false}, {"nobody", func(l *api.Levels) { l.Users = append(l.Users, users("@e:s", -5)...) }, false}, {"@e:s", func(l *api.Levels) { l.Users = append(l.Users, users("@e:s", 0)...) }, true},
		{"@e:s", func(l *api.Levels) { l.Users = append(l.Users, users("@e:s", 1)...) }, false},
		{"@b:s", func(l *api.Levels) { l.Events[0].N = 10 }, true}, {"@b:s", func(l *api.Levels) { l.Events[0].N = 51 }, false}, {"@b:s", func(l *api.Levels) { l.Events[1].N = 10 }, false}, {"@a:s", func(l *api.Levels) { l.Events[1].N = 100 }, true}, {"@a:s", func(l *api.Levels) { l.Events[1].N = 101 }, false},
		{"@b:s", func(l *api.Levels) { l.Events = l.Events[1:] }, true}, {"@b:s", func(l *api.Levels) { l.Events = l.Events[:1] }, false}, {"@d:s", func(l *api.Levels) { l.Events = append(l.Events, types("r", 0)...) }, false}, {"@b:s", func(l *api.Levels) { l.Events = append(l.Events, types("r", 50)...) }, true},
		{"@b:s", func(l *api.Levels) { l.Events = append(l.Events, types("r", 51)...) }, false}, {"@b:s", func(l *api.Levels) { l.Events = types("p", 50, "q", 70, "r", 50) }, true}, {"@d:s", func(l *api.Levels) { l.Events = types("p", 50, "q", 70, "r", 50) }, false},
		{"@b:s", func(l *api.Levels) { l.Events = types("", 20, "p", 50, "q", 70) }, true},
		{"@a:s", func(l *api.Levels) { l.Users[0].N = 101 }, false}, {"@a:s", func(l *api.Levels) { l.Users[0].N = 0 }, true},
		{"@a:s", func(l *api.Levels) { l.Users[0].User = "a" }, false}, {"@a:s", func(l *api.Levels) { l.Ban = -api.MostNumber - 1 }, false}, {"@a:s", func(l *api.Levels) { l.Events[1].Type = "p" }, false}, {"@a:s", func(l *api.Levels) { l.Users[1].User = "@a:s" }, false},
	} {
		now := base
		now.Users, now.Events = append(users(), base.Users...), append(types(), base.Events...)
		x.do(&now)
		if got := power.Change(base, now, x.who); got != x.want {
			t.Errorf("%d: Change by %s = %v", i, x.who, got)
		}
		if power.Check(now) != api.OK && (power.Change(now, now, x.who) || power.Change(now, base, x.who)) {
			t.Errorf("%d: levels that are not valid are replaced", i)
		}
	}
}

func TestP11_2ChangeOfInvalid(t *testing.T) {
	good := api.Levels{Users: users("@a:s", 100)}
	for i, bad := range []api.Levels{
		{Users: users("@a:s", 100), Ban: -api.MostNumber - 1}, {Users: users("@a:s", 100, "b", 0)}, {Users: users("@a:s", 100), Events: types("\xff", 0)}, {Users: users("@a:s", 100), Events: types("b", 0, "a", 0)}, {Users: users("@a:s", 100, "@a:s", 100)},
	} {
		if power.Change(bad, good, "@a:s") || power.Change(good, bad, "@a:s") || power.Change(bad, bad, "@a:s") {
			t.Errorf("%d: a change from or to levels that are not valid", i)
		}
	}
	if !power.Change(good, api.Levels{}, "@a:s") || !power.Change(good, good, "@a:s") {
		t.Error("valid levels")
	}
}

// A missing entry of a type counts as the greater of both defaults, each by its own levels.
func TestP11_2ChangeOfMissingTypes(t *testing.T) {
	who := "@a:s"
	l := func(state, events int64, e []api.TypeLevel) api.Levels {
		return api.Levels{Users: users(who, 50), StateDefault: state, EventsDefault: events, Events: e}
	}
	for i, x := range []struct {
		old, now api.Levels
		want     bool
	}{
		{l(50, 0, nil), l(50, 0, types("t", 1)), true}, {l(51, 0, nil), l(51, 0, types("t", 1)), false}, {l(0, 51, nil), l(0, 51, types("t", 1)), false}, {l(0, 50, nil), l(0, 50, types("t", 1)), true},
		{l(51, 0, types("t", 1)), l(51, 0, nil), false}, {l(0, 51, types("t", 1)), l(0, 51, nil), false}, {l(50, 50, types("t", 1)), l(50, 50, nil), true}, {l(51, 51, types("t", 1)), l(51, 51, types("t", 2)), true},
		{l(50, 0, types("t", 50)), l(50, 0, nil), true}, {l(51, 0, types("t", 51)), l(51, 0, nil), false},
	} {
		if got := power.Change(x.old, x.now, who); got != x.want {
			t.Errorf("%d: Change = %v", i, got)
		}
	}
}

func someLevels(r *rand.Rand) api.Levels {
	var l api.Levels
	for _, n := range numbers(&l) {
		*n = r.Int63n(4)
	}
	for _, who := range []string{"@a:s", "@b:s", "@c:s"} {
		if r.Intn(2) == 0 {
			l.Users = append(l.Users, api.UserLevel{User: who, N: r.Int63n(4)})
		}
	}
	for _, typ := range []string{"", "t", "u"} {
		if r.Intn(2) == 0 {
			l.Events = append(l.Events, api.TypeLevel{Type: typ, N: r.Int63n(4)})
		}
	}
	return l
}

// nearby are levels with few differences from l.
func nearby(r *rand.Rand, l api.Levels) api.Levels {
	other := someLevels(r)
	l.Users, l.Events = append(users(), l.Users...), append(types(), l.Events...)
	for range r.Intn(3) {
		i := r.Intn(7)
		*numbers(&l)[i] = *numbers(&other)[i]
	}
	if r.Intn(3) == 0 {
		l.Users = other.Users
	}
	if r.Intn(3) == 0 {
		l.Events = other.Events
	}
	if n := len(l.Users); n > 0 && r.Intn(3) == 0 {
		l.Users[r.Intn(n)].N = r.Int63n(4)
	}
	return l
}

// allowed decides a change as the document describes it.
func allowed(old, now api.Levels, who string) bool {
	own := power.Of(old, who)
	for i := range 7 {
		a, b := *numbers(&old)[i], *numbers(&now)[i]
		if a != b && (a > own || b > own) {
			return false
		}
	}
	type entry struct {
		n   int64
		has bool
	}
	lists := func(l api.Levels) (map[string]entry, map[string]entry) {
		u, e := map[string]entry{}, map[string]entry{}
		for _, x := range l.Users {
			u[x.User] = entry{x.N, true}
		}
		for _, x := range l.Events {
			e[x.Type] = entry{x.N, true}
		}
		return u, e
	}
	oldUsers, oldTypes := lists(old)
	nowUsers, nowTypes := lists(now)
	for _, u := range []string{"@a:s", "@b:s", "@c:s"} {
		if oldUsers[u] != nowUsers[u] {
			was := power.Of(old, u)
			if power.Of(now, u) > own || was > own || was == own && u != who {
				return false
			}
		}
	}
	counts := func(e entry, l api.Levels) int64 {
		if e.has {
			return e.n
		}
		return max(l.StateDefault, l.EventsDefault)
	}
	for _, typ := range []string{"", "t", "u"} {
		a, b := oldTypes[typ], nowTypes[typ]
		if a != b && (counts(a, old) > own || counts(b, now) > own) {
			return false
		}
	}
	return true
}

func TestP11_2AndP11_3(t *testing.T) {
	r := rand.New(rand.NewSource(15))
	yes := 0
	all := []string{"@a:s", "@b:s", "@c:s", "@d:s"}
	for range 60000 {
		old := someLevels(r)
		now := nearby(r, old)
		who := all[r.Intn(4)]
		got := power.Change(old, now, who)
		if got != allowed(old, now, who) {
			t.Fatalf("Change(%v, %v, %s) = %v", old, now, who, got)
		}
		if !power.Change(old, old, who) || !sort.SliceIsSorted(now.Users, func(i, j int) bool { return now.Users[i].User < now.Users[j].User }) {
			t.Fatal("changing nothing is allowed")
		}
		if !got {
			continue
		}
		yes++
		own := power.Of(old, who)
		for _, u := range all {
			was, is := power.Of(old, u), power.Of(now, u)
			if is > own && is != was || was > own && is != was {
				t.Fatalf("%s with %d made %s from %d to %d", who, own, u, was, is)
			}
		}
		for _, typ := range []string{"", "t", "u", "v"} {
			for _, state := range []bool{false, true} {
				if was := power.Need(old, typ, state); was > own && power.Need(now, typ, state) != was {
					t.Fatalf("%q required %d", typ, was)
				}
			}
		}
		for i, n := range numbers(&old) {
			if *n > own && *numbers(&now)[i] != *n {
				t.Fatal("an act required more")
			}
		}
	}
	if yes < 5000 {
		t.Errorf("only %d changes were allowed", yes)
	}
}
