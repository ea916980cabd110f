package lists_test

import (
	"math"
	"math/rand"
	"slices"
	"strconv"
	"strings"
	"testing"

	"outlaw/api"
	"outlaw/glob"
	"outlaw/ident"
	"outlaw/lists"
	"outlaw/rules"
)

func rule(kind int, entity, room string) api.Rule {
	return api.Rule{Kind: kind, Entity: entity, Room: room, Key: "k"}
}

func mustOK(t *testing.T, e api.Errno) {
	t.Helper()
	if e != api.OK {
		t.Fatal(e)
	}
}

func TestP17_1Example(t *testing.T) {
	b := lists.New()
	mustOK(t, b.Subscribe("!p:x"))
	r := rule(api.RuleUser, "@a*:b", "!p:x")
	mustOK(t, b.Set("!p:x", []api.Rule{r}))
	if got, is := b.First("@abc:b"); got != r || !is {
		t.Error(got, is)
	}
	mustOK(t, b.Allow("B"))
	if !b.Spares("@abc:b") || b.Spares("@abc:c") {
		t.Error("Spares")
	}
}

func TestP17_1Invalid(t *testing.T) {
	for i, b := range []*lists.Lists{nil, {}} {
		for j, e := range []api.Errno{b.Subscribe("!q:x"), b.Subscribe(""), b.Unsubscribe("!p:x"), b.Unsubscribe(""), b.Set("!p:x", nil), b.Set("", nil), b.Allow("t"), b.Allow(""), b.Disallow("s"), b.Disallow("")} {
			if e != api.ErrNil {
				t.Errorf("%d, %d: %v", i, j, e)
			}
		}
		r, is := b.First("@a:s")
		if r != (api.Rule{}) || is || b.Spares("@a:s") || len(b.Rooms())+len(b.Allowed())+len(b.Rules())+len(b.Find(1, "@a:s")) != 0 {
			t.Errorf("%d: a book that New did not return does something", i)
		}
	}
}

func TestP17_1Subscribe(t *testing.T) {
	b := lists.New()
	for _, room := range []string{"", "p:x", "@a:x", "!p", "!p:", "x"} {
		if b.Subscribe(room) != api.ErrID || b.Unsubscribe(room) != api.ErrNone || b.Set(room, nil) != api.ErrNone {
			t.Errorf("%q is no room", room)
		}
	}
	for i := range api.MostRooms {
		mustOK(t, b.Subscribe("!"+strconv.Itoa(i)+":x"))
	}
	if b.Subscribe("!new:x") != api.ErrFull || b.Subscribe("!3:x") != api.ErrTwice || b.Subscribe("x") != api.ErrID || b.Unsubscribe("!new:x") != api.ErrNone {
		t.Error("errors of a full book")
	}
	mustOK(t, b.Set("!3:x", []api.Rule{rule(1, "*", "")}))
	mustOK(t, b.Unsubscribe("!3:x"))
	if b.Unsubscribe("!3:x") != api.ErrNone || b.Set("!3:x", nil) != api.ErrNone || len(b.Rules()) != 0 || slices.Contains(b.Rooms(), "!3:x") {
		t.Error("the room and its rules are removed")
	}
	mustOK(t, b.Subscribe("!3:x"))
	if len(b.Rules()) != 0 || len(b.Find(1, "a")) != 0 || len(b.Rooms()) != 16 {
		t.Error("after a new subscription a room has no rules")
	}
}

func TestP17_1Set(t *testing.T) {
	b := lists.New()
	mustOK(t, b.Subscribe("!p:x"))
	var l []api.Rule
	for i := range api.MostRules {
		l = append(l, rule(1, strconv.Itoa(i), "!p:x"))
	}
	twice := append(slices.Clone(l), l...)
	before := slices.Clone(twice)
	mustOK(t, b.Set("!p:x", twice))
	if !slices.Equal(twice, before) {
		t.Error("Set changed its argument")
	}
	if got := b.Rules(); !slices.Equal(got, rules.Sort(l)) {
		t.Error("each rule counts once")
	}
	if b.Set("!p:x", append(twice, rule(1, "new", "!p:x"))) != api.ErrFull || b.Set("!q:x", append(twice, rule(1, "new", ""))) != api.ErrNone || len(b.Rules()) != 200 || len(b.Find(1, "new")) != 0 {
		t.Error("too many rules")
	}
	mustOK(t, b.Set("!p:x", l[:1]))
	twice[0].Entity, l[0].Entity = "changed", "changed"
	if got := b.Rules(); len(got) != 1 || got[0].Entity != "0" || len(b.Find(1, "1")) != 0 {
		t.Error("what was set last counts", got)
	}
	mustOK(t, b.Set("!p:x", nil))
	if len(b.Rules()) != 0 {
		t.Error("no rules")
	}
}

func TestP17_1Allow(t *testing.T) {
	b := lists.New()
	for i, x := range []struct {
		drop   bool
		entity string
		want   api.Errno
	}{
		{false, "", api.ErrID}, {false, "!p:x", api.ErrID}, {false, "$e", api.ErrID}, {false, "@A:x", api.ErrID}, {true, "", api.ErrID}, {true, "!p:x", api.ErrID}, {true, "a", api.ErrNone}, {true, "@a:x", api.ErrNone},
		{false, "B.org", 0}, {false, "b.ORG", api.ErrTwice}, {false, "b.org", api.ErrTwice}, {false, "@a:X", 0}, {false, "@a:X", api.ErrTwice}, {false, "@a:x", 0}, {true, "@a:X", 0}, {true, "@a:X", api.ErrNone}, {true, "B.ORG", 0}, {true, "b.org", api.ErrNone},
		{false, "X:80", 0},
	} {
		e := b.Allow
		if x.drop {
			e = b.Disallow
		}
		if got := e(x.entity); got != x.want {
			t.Errorf("%d: %q: %v", i, x.entity, got)
		}
	}
	if got := b.Allowed(); !slices.Equal(got, []string{"@a:x", "x:80"}) {
		t.Error(got)
	}
	for i := range api.MostAllowed - 2 {
		mustOK(t, b.Allow([]string{"S", "@u:"}[i%2]+strconv.Itoa(i)))
	}
	if b.Allow("new") != api.ErrFull || b.Allow("X:80") != api.ErrTwice || b.Allow("") != api.ErrID || b.Disallow("new") != api.ErrNone || len(b.Allowed()) != 64 || !slices.IsSorted(b.Allowed()) || !slices.Contains(b.Allowed(), "s0") {
		t.Error("a full book", b.Allowed())
	}
	mustOK(t, b.Disallow("x:80"))
	mustOK(t, b.Allow("new"))
}

func TestP17_2FindAndFirst(t *testing.T) {
	b := lists.New()
	mustOK(t, b.Subscribe("!p:x"))
	mustOK(t, b.Subscribe("!q:x"))
	long := strings.Repeat("*", 256)
	longer := strings.Repeat("?*", 200) + "B"
	p := []api.Rule{rule(1, "@a*:B", "!p:x"), rule(1, "@a*:b", "!p:x"), rule(3, "EVIL.*", "!p:x"), rule(2, "!R:*", "!p:x"), rule(1, "@z:evil.com", "!p:x"), rule(1, "", "!p:x"), rule(3, "", "!p:x"), rule(3, longer, "!p:x"), rule(7, "X", "!p:x"), rule(1, "a", "!p:x")}
	q := []api.Rule{rule(1, "@*", "!q:x"), rule(1, long, "!q:x"), rule(3, "evil.com", "!q:x"), rule(7, "x", "!q:x")}
	mustOK(t, b.Set("!p:x", p))
	mustOK(t, b.Set("!q:x", q))
	for i, x := range []struct {
		kind int
		text string
		want []api.Rule
	}{
		{1, "@ab:b", []api.Rule{q[1], q[0], p[1]}}, {1, "@ab:B", []api.Rule{q[1], q[0], p[0]}}, {1, "", []api.Rule{p[5], q[1]}}, {1, "a", []api.Rule{q[1], p[9]}}, {1, "A", []api.Rule{q[1]}},
		{2, "!R:s", []api.Rule{p[3]}}, {2, "!r:s", nil}, {2, "", nil}, {3, "evil.com", []api.Rule{p[2], q[2]}}, {3, "Evil.COM", []api.Rule{p[2], q[2]}}, {3, "evil.org", []api.Rule{p[2]}}, {3, "", []api.Rule{p[6]}},
		{3, strings.Repeat("a", 200) + "b", []api.Rule{p[7]}}, {3, strings.Repeat("a", 199) + "b", nil}, {7, "x", []api.Rule{q[3]}}, {7, "X", []api.Rule{p[8]}}, {0, "x", nil}, {-1, "@ab:b", nil}, {math.MaxInt, "@ab:b", nil}, {1, "@z:evil.com", []api.Rule{q[1], q[0], p[4]}},
	} {
		if got := b.Find(x.kind, x.text); !slices.Equal(got, x.want) {
			t.Errorf("%d: Find(%d, %.20q) = %v, want %v", i, x.kind, x.text, got, x.want)
		}
	}
	mustOK(t, b.Set("!q:x", q[2:]))
	for user, want := range map[string]api.Rule{"@ab:b": p[1], "@ab:B": p[0], "@z:evil.com": p[4], "@y:evil.com": p[2], "@y:EVIL.com": p[2], "@y:evil.x": p[2], "@y:b": {}, "@AB:b": {}, "": {}, "evil.com": {}, "!R:s": {}} {
		if got, is := b.First(user); got != want || is != (want != api.Rule{}) {
			t.Errorf("First(%s) = %v, %v", user, got, is)
		}
	}
	if got := b.Rules(); !slices.Equal(got, rules.Sort(append(slices.Clone(p), q[2:]...))) {
		t.Error(got)
	}
	b.Rules()[0].Entity, b.Rooms()[0], b.Find(2, "!R:s")[0].Entity = "changed", "changed", "changed"
	if b.Rules()[0].Entity == "changed" || b.Rooms()[0] == "changed" || b.Find(2, "!R:s")[0].Entity == "changed" {
		t.Error("a result shares memory with the book")
	}
}

// A rule that stands in two rooms counts once.
func TestP17_2RulesOnce(t *testing.T) {
	b := lists.New()
	mustOK(t, b.Subscribe("!p:x"))
	mustOK(t, b.Subscribe("!q:x"))
	r := rule(1, "a", "!p:x")
	mustOK(t, b.Set("!p:x", []api.Rule{r}))
	mustOK(t, b.Set("!q:x", []api.Rule{r}))
	if len(b.Rules()) != 1 || len(b.Find(1, "a")) != 1 {
		t.Error(b.Rules(), b.Find(1, "a"))
	}
}

func TestP17_2Spares(t *testing.T) {
	b := lists.New()
	for _, x := range []string{"@a:S", "B.org", "c:80"} {
		mustOK(t, b.Allow(x))
	}
	for user, want := range map[string]bool{
		"@a:S": true, "@a:s": false, "@b:s": false, "@x:b.org": true, "@x:B.ORG": true, "@x:b.orgs": false, "@x:c:80": true, "@x:C:80": true, "@x:c": false, "b.org": false, "": false, "B.org": false, "@X:b.org": false, "!x:b.org": false,
	} {
		if got := b.Spares(user); got != want {
			t.Errorf("Spares(%s) = %v", user, got)
		}
	}
}

// model is a book as the document describes it.
type model struct {
	rooms   map[string][]api.Rule
	allowed map[string]bool
}

func (m model) all() []api.Rule {
	var l []api.Rule
	for _, r := range m.rooms {
		l = append(l, r...)
	}
	return rules.Sort(l)
}

func TestP17_2AndP17_3Model(t *testing.T) {
	r := rand.New(rand.NewSource(24))
	rooms := []string{"!p:x", "!q:x", "!r:x"}
	users := []string{"@a:s", "@ab:S", "@b:evil.com", "@c:t"}
	b, m := lists.New(), model{map[string][]api.Rule{}, map[string]bool{}}
	for range 3000 {
		room := rooms[r.Intn(3)]
		_, has := m.rooms[room]
		switch r.Intn(6) {
		case 0:
			if e := b.Subscribe(room); (e == api.OK) == has {
				t.Fatal(e)
			}
			if !has {
				m.rooms[room] = nil
			}
		case 1:
			if e := b.Unsubscribe(room); (e == api.OK) != has {
				t.Fatal(e)
			}
			delete(m.rooms, room)
		case 2, 3:
			var l []api.Rule
			for range r.Intn(6) {
				l = append(l, rule(1+r.Intn(3), []string{"@a*", "@a:s", "S", "s", "EVIL*", "*", "@*:evil.com", "t", ""}[r.Intn(9)], rooms[r.Intn(3)]))
			}
			if e := b.Set(room, l); (e == api.OK) != has {
				t.Fatal(e)
			}
			if has {
				m.rooms[room] = l
			}
		case 4:
			x := []string{"@a:s", "S", "T", "@c:t"}[r.Intn(4)]
			key := x
			if ident.Server(x) {
				key = ident.Lower(x)
			}
			e := b.Allow
			if r.Intn(2) == 0 {
				e = b.Disallow
				if got := e(x); (got == api.OK) != m.allowed[key] {
					t.Fatal(got)
				}
				delete(m.allowed, key)
			} else {
				if got := e(x); (got == api.OK) == m.allowed[key] {
					t.Fatal(got)
				}
				m.allowed[key] = true
			}
		}
		all := m.all()
		if !slices.Equal(b.Rules(), all) {
			t.Fatalf("Rules = %v, want %v", b.Rules(), all)
		}
		for _, u := range users {
			server, _ := ident.ServerOf(u)
			var first api.Rule
			var found []api.Rule
			for _, x := range all {
				matches := x.Kind == 1 && glob.Match(x.Entity, u, false) || x.Kind == 3 && glob.Match(x.Entity, server, true)
				if matches && first == (api.Rule{}) {
					first = x
				}
				if x.Kind == 1 && matches {
					found = append(found, x)
				}
			}
			if got, is := b.First(u); got != first || is != (first != api.Rule{}) {
				t.Fatalf("First(%s) = %v, want %v", u, got, first)
			}
			if got := b.Find(1, u); !slices.Equal(got, found) {
				t.Fatalf("Find(%s) = %v, want %v", u, got, found)
			}
			if got := b.Spares(u); got != (m.allowed[u] || m.allowed[server]) {
				t.Fatalf("Spares(%s) = %v", u, got)
			}
		}
	}
}
