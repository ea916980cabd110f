package rules_test

import (
	"math"
	"math/rand"
	"slices"
	"strings"
	"testing"

	"outlaw/api"
	"outlaw/content"
	"outlaw/rules"
)

const room = "!p:x"

func types() [][]string {
	var l [][]string
	for _, word := range []string{"user", "room", "server"} {
		l = append(l, []string{"m.policy.rule." + word, "m.room.rule." + word, "org.matrix.mjolnir.rule." + word})
	}
	return l
}

// entry is one with the body of a rule; without a recommendation the body is empty.
func entry(typ, key, entity, recommendation, reason string) api.Entry {
	body, is := content.RuleBody(api.RuleBody{Entity: entity, Recommendation: recommendation, Reason: reason})
	if !is {
		body = api.Json{Kind: api.JsonObject}
	}
	return api.Entry{Type: typ, Key: key, ID: "$" + key, By: "@a:s", Body: body}
}

func TestP16_1KindOfAndTypes(t *testing.T) {
	for i, l := range types() {
		if got := rules.Types(i + 1); !slices.Equal(got, l) {
			t.Errorf("Types(%d) = %v", i+1, got)
		}
		for j, typ := range l {
			if kind, rank, is := rules.KindOf(typ); kind != i+1 || rank != j || !is {
				t.Errorf("KindOf(%s) = %d, %d, %v", typ, kind, rank, is)
			}
		}
	}
	for _, typ := range []string{"", "m.policy.rule", "m.policy.rule.", "m.policy.rule.users", "M.policy.rule.user", "m.room.rule.user ", "m.room.member", "org.matrix.mjolnir.rule", "m.policy.rule.event"} {
		if kind, rank, is := rules.KindOf(typ); kind != 0 || rank != 0 || is {
			t.Errorf("KindOf(%q) = %d, %d, %v", typ, kind, rank, is)
		}
	}
	for _, kind := range []int{0, 4, -1, math.MaxInt, math.MinInt} {
		if got := rules.Types(kind); len(got) != 0 {
			t.Errorf("Types(%d) = %v", kind, got)
		}
	}
	l := rules.Types(1)
	l[0] = "changed"
	if rules.Types(1)[0] == "changed" {
		t.Error("Types shares memory")
	}
}

func TestP16_1Takes(t *testing.T) {
	for s, want := range map[string]bool{"m.ban": true, "org.matrix.mjolnir.ban": true, "": false, "ban": false, "m.Ban": false, "m.mute": false, "m.ban ": false, "org.matrix.mjolnir.": false} {
		if got := rules.Takes(s); got != want {
			t.Errorf("Takes(%q) = %v", s, got)
		}
	}
}

func TestP16_1Of(t *testing.T) {
	for i, l := range types() {
		for _, typ := range l {
			want := api.Rule{Kind: i + 1, Entity: "@x:*", Reason: "why", Room: "anything", Key: "k"}
			if got, is := rules.Of(entry(typ, "k", "@x:*", "m.ban", "why"), "anything"); got != want || !is {
				t.Errorf("Of(%s) = %v, %v", typ, got, is)
			}
		}
	}
	if got, is := rules.Of(entry("m.room.rule.room", "", "e", "org.matrix.mjolnir.ban", ""), ""); got != (api.Rule{Kind: api.RuleRoom, Entity: "e"}) || !is {
		t.Error(got, is)
	}
	list := entry("m.policy.rule.user", "k", "e", "m.ban", "")
	list.Body = api.Json{Kind: api.JsonList}
	bad := entry("m.policy.rule.user", "k", "e", "m.ban", "")
	bad.Body.Items[0].N = 7
	for i, e := range []api.Entry{
		entry("m.policy.rule", "k", "e", "m.ban", ""), entry("", "k", "e", "m.ban", ""), entry("m.policy.rule.user", "k", "e", "m.mute", ""), entry("m.policy.rule.user", "k", "", "", ""), {}, list, bad, {Type: "m.policy.rule.user", Key: "k"},
	} {
		if got, is := rules.Of(e, room); got != (api.Rule{}) || is {
			t.Errorf("%d: Of = %v, %v", i, got, is)
		}
	}
}

func TestP16_2Extract(t *testing.T) {
	user := types()[0]
	ban := func(typ, key, entity string) api.Entry { return entry(typ, key, entity, "m.ban", "") }
	rule := func(kind int, entity, key string) api.Rule {
		return api.Rule{Kind: kind, Entity: entity, Room: room, Key: key}
	}
	for i, x := range []struct {
		l    []api.Entry
		want []api.Rule
	}{
		{nil, nil},
		{[]api.Entry{ban(user[0], "k", "@a*:b")}, []api.Rule{rule(1, "@a*:b", "k")}},
		{[]api.Entry{ban(user[0], "k", "@a*:b"), ban(user[1], "k", "@c:d")}, []api.Rule{rule(1, "@a*:b", "k")}},
		{[]api.Entry{ban(user[1], "k", "@c:d"), ban(user[0], "k", "@a*:b")}, []api.Rule{rule(1, "@a*:b", "k")}},
		{[]api.Entry{ban(user[2], "k", "x"), ban(user[1], "k", "y")}, []api.Rule{rule(1, "y", "k")}},
		{[]api.Entry{ban(user[0], "k", "x"), ban(user[1], "l", "y"), ban(user[2], "m", "a")}, []api.Rule{rule(1, "a", "m"), rule(1, "x", "k"), rule(1, "y", "l")}},
		{[]api.Entry{entry(user[0], "k", "x", "m.mute", ""), ban(user[1], "k", "y")}, nil},
		{[]api.Entry{entry(user[0], "k", "", "", ""), ban(user[1], "k", "y"), ban(user[2], "k", "z")}, nil},
		{[]api.Entry{ban(user[2], "k", "z"), entry(user[1], "k", "", "", "")}, nil},
		{[]api.Entry{ban(user[1], "k", "first"), ban(user[1], "k", "second")}, []api.Rule{rule(1, "first", "k")}},
		{[]api.Entry{entry(user[1], "k", "", "", ""), ban(user[1], "k", "second")}, nil},
		{[]api.Entry{ban(types()[2][0], "k", "c"), ban(types()[1][1], "k", "b"), ban(user[2], "k", "a"), ban("m.room.name", "k", "d")}, []api.Rule{rule(1, "a", "k"), rule(2, "b", "k"), rule(3, "c", "k")}},
		{[]api.Entry{entry(user[0], "k", "x", "m.ban", "why"), ban(user[0], "", "x")}, []api.Rule{rule(1, "x", ""), {Kind: 1, Entity: "x", Reason: "why", Room: room, Key: "k"}}},
		{[]api.Entry{ban("m.room.name", "k", "d"), ban("", "k", "d")}, nil},
	} {
		if got := rules.Extract(api.State{Entries: x.l}, room); !slices.Equal(got, x.want) {
			t.Errorf("%d: Extract = %v, want %v", i, got, x.want)
		}
	}
}

// ordered are rules in ascending order.
func ordered() []api.Rule {
	return []api.Rule{
		{Kind: math.MinInt, Entity: "z"}, {Kind: 1}, {Kind: 1, Reason: "r"}, {Kind: 1, Key: "a"}, {Kind: 1, Key: "a", Reason: "b"}, {Kind: 1, Key: "b"}, {Kind: 1, Room: "a"}, {Kind: 1, Room: "a", Key: "a", Reason: "z"}, {Kind: 1, Room: "a", Key: "b"},
		{Kind: 1, Room: "b"}, {Kind: 1, Entity: "B", Room: "z", Key: "z"}, {Kind: 1, Entity: "a"}, {Kind: 1, Entity: "a\x00"}, {Kind: 1, Entity: "\xff"}, {Kind: 2}, {Kind: 3}, {Kind: 10}, {Kind: math.MaxInt},
	}
}

func TestP16_2CompareAndSort(t *testing.T) {
	l := ordered()
	for i, a := range l {
		for j, b := range l {
			want := 0
			if i < j {
				want = -1
			} else if i > j {
				want = 1
			}
			if got := rules.Compare(a, b); got != want {
				t.Errorf("Compare(%v, %v) = %d", a, b, got)
			}
		}
	}
	r := rand.New(rand.NewSource(22))
	for range 200 {
		m := append(slices.Clone(l), l[:r.Intn(len(l))]...)
		r.Shuffle(len(m), func(i, j int) { m[i], m[j] = m[j], m[i] })
		before := slices.Clone(m)
		if got := rules.Sort(m); !slices.Equal(got, l) {
			t.Fatalf("Sort = %v", got)
		}
		if !slices.Equal(m, before) {
			t.Fatal("Sort changed its argument")
		}
	}
	if len(rules.Sort(nil)) != 0 || !slices.Equal(rules.Sort(l[:1]), l[:1]) {
		t.Error("short lists")
	}
}

func TestP16_2Text(t *testing.T) {
	for r, want := range map[api.Rule]string{
		{Kind: 1, Entity: "@a*:b", Room: "!p:x", Key: "k"}:                    "user @a*:b !p:x k",
		{Kind: 2, Entity: "!a:b", Room: "!p:x", Key: "k", Reason: "spam (a)"}: "room !a:b !p:x k (spam (a))",
		{Kind: 3}:                      "server   ",
		{Kind: 3, Reason: " "}:         "server    ( )",
		{Kind: 0, Entity: "x"}:         "? x  ",
		{Kind: 4, Key: "\xff"}:         "?   \xff",
		{Kind: -1}:                     "?   ",
		{Kind: math.MaxInt, Room: "r"}: "?  r ",
	} {
		if got := rules.Text(r); got != want {
			t.Errorf("Text(%v) = %q", r, got)
		}
	}
}

func TestP16_3(t *testing.T) {
	r := rand.New(rand.NewSource(23))
	for range 2000 {
		var l []api.Entry
		for range r.Intn(8) {
			typ := types()[r.Intn(3)][r.Intn(3)]
			l = append(l, entry(typ, []string{"k", "l", ""}[r.Intn(3)], []string{"a", "b", "*", ""}[r.Intn(4)], []string{"m.ban", "m.ban", "other"}[r.Intn(3)], []string{"", "spam"}[r.Intn(2)]))
		}
		got := rules.Extract(api.State{Entries: l}, room)
		var want []api.Rule
		for kind := 1; kind <= 3; kind++ {
			for _, key := range []string{"k", "l", ""} {
				if e, is := first(l, kind, key); is {
					if x, is := rules.Of(e, room); is {
						want = append(want, x)
					}
				}
			}
		}
		if !slices.Equal(got, rules.Sort(want)) {
			t.Fatalf("Extract(%v) = %v, want %v", l, got, want)
		}
		seen := map[string]bool{}
		for _, x := range got {
			at := strings.Repeat("x", x.Kind) + x.Key
			if seen[at] || x.Room != room {
				t.Fatal("two rules of one kind and key", got)
			}
			seen[at] = true
		}
		if len(l) > 0 {
			i := r.Intn(len(l))
			e, _ := first(l, mustKind(l[i]), l[i].Key)
			for j := range l {
				if l[j].Type == e.Type && l[j].Key == e.Key {
					l[j].Body = api.Json{Kind: api.JsonObject}
				}
			}
			for _, x := range rules.Extract(api.State{Entries: l}, room) {
				if x.Kind == mustKind(e) && x.Key == e.Key {
					t.Fatal("a body without what a rule needs retracts it", l)
				}
			}
		}
	}
}

func mustKind(e api.Entry) int {
	kind, _, _ := rules.KindOf(e.Type)
	return kind
}

// first is the entry that counts for a kind and a key.
func first(l []api.Entry, kind int, key string) (api.Entry, bool) {
	for _, typ := range rules.Types(kind) {
		for _, e := range l {
			if e.Type == typ && e.Key == key {
				return e, true
			}
		}
	}
	return api.Entry{}, false
}
