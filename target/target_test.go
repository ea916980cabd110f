package target_test

import (
	"math/rand"
	"slices"
	"strings"
	"testing"

	"outlaw/api"
	"outlaw/glob"
	"outlaw/ident"
	"outlaw/rules"
	"outlaw/target"
)

const bot = "@bot:Home.org"

func rule(kind int, entity string) api.Rule {
	return api.Rule{Kind: kind, Entity: entity, Room: "!p:x", Key: entity}
}

func members(users ...string) api.State {
	var s api.State
	for _, u := range users {
		s.Members = append(s.Members, api.Member{User: u, Membership: api.MemberJoin})
	}
	return s
}

func TestP18_1Spared(t *testing.T) {
	allowed := []string{"@a:S", "B.org", "c:80", "odd", "!r:x", ""}
	for user, want := range map[string]bool{
		bot: true, "@bot:home.org": false, "@x:home.org": false, "@a:S": true, "@a:s": false, "@b:S": false, "@x:b.org": true, "@x:B.ORG": true, "@x:c:80": true, "@x:C:80": true, "@x:c": false, "@x:odd": true, "@x:ODD": true,
		"odd": true, "ODD": false, "B.org": true, "b.org": false, "!r:x": true, "": true, "x": false, "@X:b.org": false,
	} {
		if got := target.Spared(allowed, bot, user); got != want {
			t.Errorf("Spared(%q) = %v", user, got)
		}
	}
	if target.Spared(nil, "", "@a:s") || !target.Spared(nil, "", "") || !target.Spared(nil, "x", "x") {
		t.Error("without allowed entities")
	}
}

func TestP18_1First(t *testing.T) {
	l := []api.Rule{rule(3, "EVIL.*"), rule(1, "@z*"), rule(1, "@a*:B"), rule(1, "@a*:b"), rule(2, "*"), rule(0, "*"), rule(1, ""), rule(1, "@*c:x"), rule(4, "*")}
	for user, want := range map[string]api.Rule{
		"@ab:b": rule(1, "@a*:b"), "@ab:B": rule(1, "@a*:B"), "@x:evil.com": rule(3, "EVIL.*"), "@x:Evil.com": rule(3, "EVIL.*"), "@z:evil.com": rule(1, "@z*"), "@zc:x": rule(1, "@*c:x"), "@q:y": {}, "": {}, "evil.com": {}, "@Z:evil.com": {}, "!a:evil.com": {},
	} {
		if got, is := target.First(l, user); got != want || is != (want != api.Rule{}) {
			t.Errorf("First(%q) = %v, %v", user, got, is)
		}
		m := slices.Clone(l)
		slices.Reverse(m)
		if got, _ := target.First(m, user); got != want {
			t.Errorf("the order of the list matters for %q", user)
		}
	}
	same := []api.Rule{{Kind: 1, Entity: "*", Room: "!b:x", Reason: "r"}, {Kind: 1, Entity: "*", Room: "!a:x", Key: "k", Reason: "r"}, {Kind: 1, Entity: "*", Room: "!a:x", Key: "k"}, {Kind: 1, Entity: "*", Room: "!a:x", Key: "l"}}
	if got, _ := target.First(same, "@a:b"); got != same[2] {
		t.Error(got)
	}
}

func TestP18_1Known(t *testing.T) {
	s := members("@b:s", "@a:s", "@c:s", "@a:s", "", "@B:s")
	for i := range s.Members {
		s.Members[i].Membership = i - 1
	}
	if got := target.Known(s); !slices.Equal(got, []string{"", "@B:s", "@a:s", "@b:s", "@c:s"}) {
		t.Error(got)
	}
	if len(target.Known(api.State{})) != 0 || s.Members[0].User != "@b:s" {
		t.Error("no members, or the state was changed")
	}
}

func TestP18_1Deny(t *testing.T) {
	allowed := []string{"@u:Good.net", "Fine.com:80", "!r:room.com", "@X:bad.com", "$e"}
	for i, x := range []struct {
		l    []api.Rule
		want []string
	}{
		{[]api.Rule{rule(3, "evil.*"), rule(3, "a?-9:Z"), rule(3, ""), rule(3, "evil.*"), {Kind: 3, Entity: "evil.*", Reason: "again"}}, []string{"", "a?-9:Z", "evil.*"}},
		{[]api.Rule{rule(1, "evil.*"), rule(2, "evil.*"), rule(0, "evil.*"), rule(4, "evil.*")}, nil},
		{[]api.Rule{rule(3, "a b"), rule(3, "a_b"), rule(3, "\u00e9"), rule(3, "a/b"), rule(3, "a\n"), rule(3, "[a]"), rule(3, "a@b"), rule(3, "a;"), rule(3, "a`"), rule(3, "a{"), rule(3, "\x00"), rule(3, "a,b"), rule(3, ")"), rule(3, "+")}, nil},
		{[]api.Rule{rule(3, "home.org"), rule(3, "HOME.*"), rule(3, "*"), rule(3, "h?me.org"), rule(3, "home.or"), rule(3, "home.org:1")}, []string{"home.or", "home.org:1"}},
		{[]api.Rule{rule(3, "good.net"), rule(3, "GOOD*"), rule(3, "fine.com"), rule(3, "fine.com:80"), rule(3, "FINE.com:*"), rule(3, "room.com"), rule(3, "bad.com"), rule(3, "Good.org")}, []string{"Good.org", "bad.com", "fine.com", "room.com"}},
		{[]api.Rule{rule(3, "B"), rule(3, "a"), rule(3, "A"), rule(3, "b"), rule(3, "0"), rule(3, "z"), rule(3, "Z"), rule(3, "9")}, []string{"0", "9", "A", "B", "Z", "a", "b", "z"}},
		{nil, nil},
	} {
		if got := target.Deny(x.l, allowed, bot); !slices.Equal(got, x.want) {
			t.Errorf("%d: Deny = %v, want %v", i, got, x.want)
		}
	}
	for c := range 256 {
		b := string([]byte{byte(c)})
		want := strings.Contains("abcdefghijklmnopqrstuvwxyzABCDEFGHIJKLMNOPQRSTUVWXYZ0123456789.-:*?", b)
		if got := target.Deny([]api.Rule{rule(3, "x"+b+"y")}, nil, bot); (len(got) == 1) != want {
			t.Errorf("a pattern with the byte %d: %v", c, got)
		}
	}
	if got := target.Deny([]api.Rule{rule(3, "*r:room.com"), rule(3, "?e")}, allowed, bot); len(got) != 2 {
		t.Error("what is neither a user nor a server exempts nothing", got)
	}
	if got := target.Deny([]api.Rule{rule(3, "*"), rule(3, "home.org")}, nil, "nobody"); !slices.Equal(got, []string{"*", "home.org"}) {
		t.Error("a bot that is no user has no server", got)
	}
}

func TestP18_2Of(t *testing.T) {
	evil := rule(3, "evil.*")
	x := api.Resolved{State: members("@aa:b", "@ab:b", "@z:evil.x")}
	got := target.Of([]api.Rule{rule(1, "@a*:b"), evil}, []string{"@ab:b"}, bot, x)
	want := api.Target{Bans: []api.Ban{{User: "@aa:b", Rule: rule(1, "@a*:b")}, {User: "@z:evil.x", Rule: evil}}, Deny: []string{"evil.*"}}
	if !target.Same(got, want) {
		t.Errorf("the example: %v", got)
	}
	spam, spammer, other := rule(1, "@s:*"), rule(1, "@t:*"), rule(1, "@u:*")
	spam.Reason, spammer.Reason, other.Reason = "spam", "spamming", "Spam"
	x = api.Resolved{State: members("@u:x", "@t:x", "@s:x", bot, "x", "@s:x", "@s:Fine.org"), Messages: []api.Message{
		{ID: "$5", Sender: "@s:x"}, {ID: "$2", Sender: "@t:x"}, {ID: "$3", Sender: "@u:x"}, {ID: "$4", Sender: "@s:x", Redacted: true}, {ID: "$1", Sender: "@s:x"}, {ID: "$6", Sender: "@s:y"}, {ID: "$7", Sender: bot}, {ID: "$8", Sender: "@s:Fine.org"},
	}}
	l := []api.Rule{other, spammer, spam, rule(1, "@bot:*"), rule(1, "x")}
	got = target.Of(l, []string{"fine.org"}, bot, x)
	want = api.Target{Bans: []api.Ban{{User: "@s:x", Rule: spam}, {User: "@t:x", Rule: spammer}, {User: "@u:x", Rule: other}}, Redact: []string{"$5", "$2", "$1"}}
	if !target.Same(got, want) {
		t.Errorf("%v, want %v", got, want)
	}
	first := rule(1, "@s*")
	if got := target.Of(append(l, first), nil, bot, x); len(got.Redact) != 1 || got.Bans[0].Rule != first || got.Redact[0] != "$2" {
		t.Error("only the first rule counts", got)
	}
	if got := target.Of(nil, nil, "", api.Resolved{}); !target.Same(got, api.Target{}) {
		t.Error(got)
	}
}

func TestP18_2UsersAndSame(t *testing.T) {
	ban := api.Ban{User: "@a:s", Rule: rule(1, "x")}
	l := []api.Target{{}, {Bans: []api.Ban{ban}}, {Bans: []api.Ban{{User: "@b:s", Rule: ban.Rule}}}, {Bans: []api.Ban{{User: "@a:s"}}}, {Bans: []api.Ban{ban, ban}}, {Deny: []string{"a"}}, {Deny: []string{"b"}}, {Deny: []string{"a", "b"}}, {Redact: []string{"a"}}, {Redact: []string{"b"}}}
	for i, a := range l {
		for j, b := range l {
			if got := target.Same(a, api.Target{Bans: slices.Clone(b.Bans), Deny: slices.Clone(b.Deny), Redact: slices.Clone(b.Redact)}); got != (i == j) {
				t.Errorf("Same of %d and %d is %v", i, j, got)
			}
		}
	}
	if !target.Same(api.Target{Bans: []api.Ban{}, Deny: []string{}, Redact: []string{}}, api.Target{}) {
		t.Error("a nil slice and an empty one are the same")
	}
	if got := target.Users(api.Target{Bans: []api.Ban{{User: "b"}, {User: "a"}, {User: "b"}}}); !slices.Equal(got, []string{"b", "a", "b"}) {
		t.Error(got)
	}
	if len(target.Users(api.Target{})) != 0 {
		t.Error("nobody")
	}
}

type world struct {
	l       []api.Rule
	allowed []string
	x       api.Resolved
}

func some(r *rand.Rand) world {
	var w world
	for range r.Intn(6) {
		x := rule(1+r.Intn(3), []string{"@a*", "@*:s", "S", "t", "*", "@b:T", "EVIL", "ho*"}[r.Intn(8)])
		x.Reason = []string{"", "spam", "other"}[r.Intn(3)]
		w.l = append(w.l, x)
	}
	for range r.Intn(3) {
		w.allowed = append(w.allowed, []string{"@a:s", "S", "@b:T", "evil", "@ab:t"}[r.Intn(5)])
	}
	users := []string{"@a:s", "@ab:t", "@b:T", "@b:evil", "@c:S", bot}
	for _, i := range r.Perm(6)[:r.Intn(7)] {
		w.x.State.Members = append(w.x.State.Members, api.Member{User: users[i], Membership: r.Intn(5)})
	}
	slices.SortFunc(w.x.State.Members, func(a, b api.Member) int { return strings.Compare(a.User, b.User) })
	for i := range r.Intn(5) {
		w.x.Messages = append(w.x.Messages, api.Message{ID: "$" + string(rune('a'+i)), Sender: users[r.Intn(6)], Redacted: r.Intn(3) == 0})
	}
	return w
}

func TestP18_2AndP18_3(t *testing.T) {
	r := rand.New(rand.NewSource(25))
	home, _ := ident.ServerOf(bot)
	bans := 0
	for range 5000 {
		w := some(r)
		got := target.Of(w.l, w.allowed, bot, w.x)
		var want api.Target
		for _, u := range target.Known(w.x.State) {
			if x, is := target.First(w.l, u); is && !target.Spared(w.allowed, bot, u) {
				want.Bans = append(want.Bans, api.Ban{User: u, Rule: x})
			}
		}
		want.Deny = target.Deny(w.l, w.allowed, bot)
		for _, m := range w.x.Messages {
			for _, b := range want.Bans {
				if b.User == m.Sender && !m.Redacted && strings.HasPrefix(b.Rule.Reason, "spam") {
					want.Redact = append(want.Redact, m.ID)
				}
			}
		}
		if !target.Same(got, want) {
			t.Fatalf("Of(%v) = %v, want %v", w, got, want)
		}
		bans += len(got.Bans)
		for _, u := range target.Users(got) {
			if target.Spared(w.allowed, bot, u) {
				t.Fatal("one who is spared is banned", w)
			}
		}
		for _, p := range got.Deny {
			if glob.Match(p, home, true) {
				t.Fatal("the bot's server is denied", p)
			}
		}
		more := target.Of(append(slices.Clone(w.l), rule(1+r.Intn(3), []string{"@*", "t"}[r.Intn(2)])), w.allowed, bot, w.x)
		fewer := target.Of(w.l, append(slices.Clone(w.allowed), []string{"@c:S", "t"}[r.Intn(2)]), bot, w.x)
		for _, u := range target.Users(got) {
			if !slices.Contains(target.Users(more), u) {
				t.Fatal("an additional rule leads to fewer bans")
			}
		}
		for _, u := range target.Users(fewer) {
			if !slices.Contains(target.Users(got), u) {
				t.Fatal("an additional allowed entity leads to more bans")
			}
		}
		m, a := slices.Clone(w.l), slices.Clone(w.allowed)
		r.Shuffle(len(m), func(i, j int) { m[i], m[j] = m[j], m[i] })
		slices.Reverse(a)
		before := rules.Sort(m)
		if !target.Same(got, target.Of(m, a, bot, w.x)) || !slices.Equal(before, rules.Sort(m)) {
			t.Fatal("the order of rules or allowed entities matters")
		}
	}
	if bans < 2000 {
		t.Errorf("only %d bans", bans)
	}
}
