package content_test

import (
	"math"
	"math/rand"
	"slices"
	"sort"
	"strconv"
	"strings"
	"testing"

	"outlaw/api"
	"outlaw/canon"
	"outlaw/content"
	"outlaw/json"
)

func parse(t *testing.T, s string) api.Json {
	t.Helper()
	v, e := json.Parse(s)
	if e != api.OK {
		t.Fatal(s, e)
	}
	return v
}

func bytes(v api.Json) string {
	s, _ := canon.Bytes(v)
	return s
}

// invalid are bodies from which nothing can be read, though they have all the fields.
func invalid(t *testing.T) []api.Json {
	all := `{"membership":"ban","creator":"@a:s","entity":"e","recommendation":"r","allow":[],"deny":[],"x":1}`
	var l []api.Json
	for _, do := range []func(v *api.Json){
		func(v *api.Json) { v.Keys[6] = "deny" }, func(v *api.Json) { v.Keys[6] = "\xff" }, func(v *api.Json) { v.Items[6].N = math.MaxInt64 }, func(v *api.Json) { v.Items[6] = api.Json{} },
		func(v *api.Json) { v.N = 1 }, func(v *api.Json) { v.Kind = api.JsonList }, func(v *api.Json) { v.Kind = 0 }, func(v *api.Json) { v.Keys = append(v.Keys, "y") },
		func(v *api.Json) { v.Kind, v.Keys = api.JsonList, nil }, func(v *api.Json) { *v = api.Json{Kind: api.JsonText, Text: "ban"} }, func(v *api.Json) { *v = api.Json{Kind: api.JsonNull} },
		func(v *api.Json) {
			for range 9 {
				v.Items[6] = api.Json{Kind: api.JsonList, Items: []api.Json{v.Items[6]}}
			}
		},
		func(v *api.Json) { v.Items[6] = api.Json{Kind: api.JsonList, Items: make([]api.Json, 400)} },
	} {
		v := parse(t, all)
		do(&v)
		l = append(l, v)
	}
	return l
}

func TestP6_1InvalidBodies(t *testing.T) {
	for i, v := range append(invalid(t), api.Json{}) {
		if m, is := content.MemberOf(v); m != 0 || is {
			t.Error("MemberOf", i, m, is)
		}
		if c, is := content.CreatorOf(v); c != "" || is {
			t.Error("CreatorOf", i, c, is)
		}
		if r, is := content.RuleOf(v); r != (api.RuleBody{}) || is {
			t.Error("RuleOf", i, r, is)
		}
		if a, is := content.AclOf(v); len(a.Allow)+len(a.Deny) != 0 || is {
			t.Error("AclOf", i, a, is)
		}
		if l, is := content.LevelsOf(v); !content.SameLevels(l, api.Levels{}) || is {
			t.Error("LevelsOf", i, l, is)
		}
	}
}

func TestP6_1MemberOf(t *testing.T) {
	for s, want := range map[string]int{
		`{"membership":"invite"}`: api.MemberInvite, `{"membership":"join","x":[]}`: api.MemberJoin, `{"a":1,"membership":"leave"}`: api.MemberLeave, `{"membership":"ban"}`: api.MemberBan,
		`{}`: 0, `{"membership":""}`: 0, `{"membership":"Ban"}`: 0, `{"membership":"knock"}`: 0, `{"membership":"none"}`: 0, `{"membership":4}`: 0, `{"membership":["ban"]}`: 0,
		`{"Membership":"ban"}`: 0, `["membership"]`: 0, `"ban"`: 0, `{"membership":null}`: 0, `{"content":{"membership":"ban"}}`: 0, `{"membership":" ban"}`: 0,
	} {
		if m, is := content.MemberOf(parse(t, s)); m != want || is != (want != 0) {
			t.Errorf("MemberOf(%s) = %d, %v", s, m, is)
		}
	}
}

func TestP6_1CreatorOf(t *testing.T) {
	for s, want := range map[string]string{
		`{"creator":"@a:B","x":1}`: "@a:B", `{}`: "", `{"creator":""}`: "", `{"creator":"a"}`: "", `{"creator":"@A:b"}`: "", `{"creator":1}`: "", `{"creator":["@a:b"]}`: "", `{"sender":"@a:b"}`: "",
		`{"creator":"!a:b"}`: "", `"@a:b"`: "",
	} {
		if c, is := content.CreatorOf(parse(t, s)); c != want || is != (want != "") {
			t.Errorf("CreatorOf(%s) = %q, %v", s, c, is)
		}
	}
}

func TestP6_1RuleOf(t *testing.T) {
	long := func(n int) string { return strings.Repeat("x", n) }
	type rule = api.RuleBody
	for s, want := range map[string]rule{
		`{"entity":"@x:*","recommendation":"m.ban"}`:                          {Entity: "@x:*", Recommendation: "m.ban"},
		`{"entity":"e","recommendation":"r","reason":"why"}`:                  {Entity: "e", Recommendation: "r", Reason: "why"},
		`{"entity":"e","recommendation":"r","reason":""}`:                     {Entity: "e", Recommendation: "r"},
		`{"entity":"e","recommendation":"r","reason":5}`:                      {Entity: "e", Recommendation: "r"},
		`{"entity":"e","recommendation":"r","reason":["x"]}`:                  {Entity: "e", Recommendation: "r"},
		`{"entity":"` + long(255) + `","recommendation":"` + long(128) + `"}`: {Entity: long(255), Recommendation: long(128)},
		`{"entity":"e","recommendation":"r","reason":"` + long(255) + `"}`:    {Entity: "e", Recommendation: "r", Reason: long(255)},
		`{}`:                                                               {},
		`{"entity":"e"}`:                                                   {},
		`{"recommendation":"r"}`:                                           {},
		`{"entity":"","recommendation":"r"}`:                               {},
		`{"entity":"e","recommendation":""}`:                               {},
		`{"entity":1,"recommendation":"r"}`:                                {},
		`{"entity":"e","recommendation":1}`:                                {},
		`{"entity":["e"],"recommendation":"r"}`:                            {},
		`{"entity":"` + long(256) + `","recommendation":"r"}`:              {},
		`{"entity":"e","recommendation":"` + long(129) + `"}`:              {},
		`{"entity":"e","recommendation":"r","reason":"` + long(256) + `"}`: {},
		`["entity","e"]`:                                                   {},
	} {
		if r, is := content.RuleOf(parse(t, s)); r != want || is != (want.Entity != "") {
			t.Errorf("RuleOf(%.90s) = %.90v, %v", s, r, is)
		}
	}
}

func TestP6_1AclOf(t *testing.T) {
	long := func(n int) string { return `"` + strings.Repeat("x", n) + `"` }
	for s, want := range map[string]*api.Acl{
		`{}`: {}, `{"allow":[],"deny":[]}`: {}, `{"allow":["*"],"deny":["b","a","b",""],"x":1}`: {Allow: []string{"*"}, Deny: []string{"b", "a", "b", ""}}, `{"deny":["x"]}`: {Deny: []string{"x"}},
		`{"allow":["x","y"]}`: {Allow: []string{"x", "y"}}, `{"allow":[` + long(255) + `]}`: {Allow: []string{strings.Repeat("x", 255)}}, `{"deny":[` + long(255) + `]}`: {Deny: []string{strings.Repeat("x", 255)}},
		`{"allow":"*"}`: nil, `{"deny":"*"}`: nil, `{"allow":null}`: nil, `{"deny":{"a":"b"}}`: nil, `{"allow":{}}`: nil, `{"allow":[1]}`: nil, `{"deny":["a",["b"]]}`: nil, `{"allow":["a",null],"deny":[]}`: nil,
		`{"allow":[` + long(256) + `]}`: nil, `{"deny":["a",` + long(256) + `]}`: nil, `{"allow":["a"],"deny":5}`: nil, `{"allow":5,"deny":["a"]}`: nil, `[]`: nil, `"*"`: nil,
	} {
		a, is := content.AclOf(parse(t, s))
		if want == nil {
			if is || len(a.Allow)+len(a.Deny) > 0 {
				t.Errorf("AclOf(%.60s) = %v, %v", s, a, is)
			}
			continue
		}
		if !is || !slices.Equal(a.Allow, want.Allow) || !slices.Equal(a.Deny, want.Deny) {
			t.Errorf("AclOf(%.60s) = %v, %v", s, a, is)
		}
	}
}

func usual() api.Levels {
	return api.Levels{StateDefault: 50, Ban: 50, Kick: 50, Redact: 50}
}

func TestP6_2LevelsOf(t *testing.T) {
	few := usual()
	few.Users = []api.UserLevel{{User: "@a:s", N: 100}, {User: "@b:S", N: -1}, {User: "@b:s", N: 0}}
	few.Events = []api.TypeLevel{{Type: "", N: 5}, {Type: "a\n", N: api.MostNumber}, {Type: "b", N: -api.MostNumber}}
	for s, want := range map[string]api.Levels{
		`{}`: usual(), `{"x":"y"}`: usual(), `{"users":{},"events":{}}`: usual(),
		`{"users":{"@b:s":0,"@b:S":-1,"@a:s":100},"events":{"b":-9007199254740991,"":5,"a\n":9007199254740991}}`: few,
		`{"users_default":1,"events_default":2,"state_default":3,"ban":4,"kick":5,"redact":6,"invite":7}`:        {UsersDefault: 1, EventsDefault: 2, StateDefault: 3, Ban: 4, Kick: 5, Redact: 6, Invite: 7},
		`{"state_default":0,"ban":0,"kick":0,"redact":-9007199254740991}`:                                        {Redact: -api.MostNumber},
		`{"users_default":9007199254740991,"invite":-3,"events_default":-4}`:                                     {UsersDefault: api.MostNumber, EventsDefault: -4, StateDefault: 50, Ban: 50, Kick: 50, Redact: 50, Invite: -3},
	} {
		l, is := content.LevelsOf(parse(t, s))
		if !is || !content.SameLevels(l, want) {
			t.Errorf("LevelsOf(%s) = %v, %v, want %v", s, l, is, want)
		}
	}
	for _, s := range []string{
		`[]`, `"users"`, `{"users":[]}`, `{"users":5}`, `{"users":null}`, `{"events":[]}`, `{"events":"a"}`, `{"users":{"a":1}}`, `{"users":{"":1}}`, `{"users":{"@a:s":1,"b":2}}`, `{"users":{"@a:s":"1"}}`,
		`{"users":{"@a:s":null}}`, `{"events":{"a":"1"}}`, `{"events":{"a":1,"b":[]}}`, `{"users":{"@a:s":[1]}}`,
		`{"users_default":"1"}`, `{"events_default":null}`, `{"state_default":[]}`, `{"ban":true}`, `{"kick":"50"}`, `{"redact":{}}`, `{"invite":false}`, `{"ban":50,"invite":"0"}`,
	} {
		if l, is := content.LevelsOf(parse(t, s)); is || !content.SameLevels(l, api.Levels{}) {
			t.Errorf("LevelsOf(%s) = %v, %v", s, l, is)
		}
	}
}

func TestP6_3MemberAndCreateBody(t *testing.T) {
	for m, want := range map[int]string{
		api.MemberInvite: `{"membership":"invite"}`, api.MemberJoin: `{"membership":"join"}`, api.MemberLeave: `{"membership":"leave"}`, api.MemberBan: `{"membership":"ban"}`,
		0: "", -1: "", 5: "", math.MaxInt: "", math.MinInt: "",
	} {
		if v, is := content.MemberBody(m); bytes(v) != want || is != (want != "") || !is && !json.Same(v, api.Json{}) {
			t.Errorf("MemberBody(%d) = %v, %v", m, v, is)
		}
	}
	for c, want := range map[string]string{"@a:B": `{"creator":"@a:B"}`, "": "", "a": "", "@A:b": "", "\xff": "", "!a:b": ""} {
		if v, is := content.CreateBody(c); bytes(v) != want || is != (want != "") || !is && !json.Same(v, api.Json{}) {
			t.Errorf("CreateBody(%q) = %v, %v", c, v, is)
		}
	}
}

func TestP6_3RuleBody(t *testing.T) {
	long := func(n int) string { return strings.Repeat("x", n) }
	for r, want := range map[api.RuleBody]string{
		{Entity: "e", Recommendation: "r"}:                       `{"entity":"e","recommendation":"r"}`,
		{Entity: "\n", Recommendation: "\u20ac", Reason: "\x00"}: "{\"entity\":\"\\n\",\"reason\":\"\\u0000\",\"recommendation\":\"\u20ac\"}",
		{Entity: long(255), Recommendation: long(128)}:           `{"entity":"` + long(255) + `","recommendation":"` + long(128) + `"}`,
		{Entity: "e", Recommendation: "r", Reason: long(255)}:    `{"entity":"e","reason":"` + long(255) + `","recommendation":"r"}`,
		{}: "", {Entity: "e"}: "", {Recommendation: "r"}: "", {Entity: long(256), Recommendation: "r"}: "", {Entity: "e", Recommendation: long(129)}: "",
		{Entity: "e", Recommendation: "r", Reason: long(256)}: "", {Entity: "\xff", Recommendation: "r"}: "", {Entity: "e", Recommendation: "\xff"}: "", {Entity: "e", Recommendation: "r", Reason: "\xff"}: "",
	} {
		if v, is := content.RuleBody(r); bytes(v) != want || is != (want != "") || !is && !json.Same(v, api.Json{}) {
			t.Errorf("RuleBody(%.50v) = %v, %v", r, v, is)
		}
	}
}

func TestP6_3AclBody(t *testing.T) {
	many := func(n int) []string { return make([]string, n) }
	for i, x := range []struct {
		a    api.Acl
		want string
	}{
		{api.Acl{}, `{"allow":[],"deny":[]}`}, {api.Acl{Allow: []string{"*"}, Deny: []string{"b", "a", "a", ""}}, `{"allow":["*"],"deny":["b","a","a",""]}`},
		{api.Acl{Allow: many(200), Deny: many(197)}, `{"allow":[` + strings.Repeat(`"",`, 199) + `""],"deny":[` + strings.Repeat(`"",`, 196) + `""]}`},
		{api.Acl{Allow: many(200), Deny: many(198)}, ""}, {api.Acl{Allow: []string{"\xff"}}, ""}, {api.Acl{Deny: []string{"a", "\xff"}}, ""},
		{api.Acl{Allow: []string{strings.Repeat("x", 256)}}, ""}, {api.Acl{Deny: []string{strings.Repeat("x", 256)}}, ""},
		{api.Acl{Deny: []string{strings.Repeat("x", 255)}}, `{"allow":[],"deny":["` + strings.Repeat("x", 255) + `"]}`},
	} {
		if v, is := content.AclBody(x.a); bytes(v) != x.want || is != (x.want != "") || !is && !json.Same(v, api.Json{}) {
			t.Errorf("%d: AclBody = %.90v, %v", i, v, is)
		}
	}
}

func TestP6_3LevelsBody(t *testing.T) {
	rich := api.Levels{Users: []api.UserLevel{{User: "@a:s", N: 100}, {User: "@b:S", N: -1}}, Events: []api.TypeLevel{{Type: "", N: 1}, {Type: "t", N: 2}}, UsersDefault: 1, EventsDefault: 2, StateDefault: 3, Ban: 4, Kick: 5, Redact: 6, Invite: 7}
	for want, l := range map[string]api.Levels{
		`{"ban":50,"events":{},"events_default":0,"invite":0,"kick":50,"redact":50,"state_default":50,"users":{},"users_default":0}`:                           usual(),
		`{"ban":0,"events":{},"events_default":0,"invite":0,"kick":0,"redact":0,"state_default":0,"users":{},"users_default":0}`:                               {},
		`{"ban":4,"events":{"":1,"t":2},"events_default":2,"invite":7,"kick":5,"redact":6,"state_default":3,"users":{"@a:s":100,"@b:S":-1},"users_default":1}`: rich,
	} {
		if v, is := content.LevelsBody(l); !is || bytes(v) != want || !json.Same(v, canon.Canon(v)) {
			t.Errorf("LevelsBody = %v, %v, want %s", v, is, want)
		}
	}
	big, small := int64(api.MostNumber+1), int64(-api.MostNumber-1)
	users := func(n int) (l []api.UserLevel) {
		for i := range n {
			l = append(l, api.UserLevel{User: "@" + strconv.Itoa(1000+i) + ":s"})
		}
		return l
	}
	for i, l := range []api.Levels{
		{UsersDefault: big}, {EventsDefault: small}, {StateDefault: big}, {Ban: small}, {Kick: big}, {Redact: math.MaxInt64}, {Invite: math.MinInt64},
		{Users: []api.UserLevel{{User: "a"}}}, {Users: []api.UserLevel{{User: ""}}}, {Users: []api.UserLevel{{User: "@a:s", N: big}}}, {Users: []api.UserLevel{{User: "@b:s"}, {User: "@a:s"}}},
		{Users: []api.UserLevel{{User: "@a:s"}, {User: "@a:s"}}}, {Events: []api.TypeLevel{{Type: "a", N: small}}}, {Events: []api.TypeLevel{{Type: "b"}, {Type: "a"}}}, {Events: []api.TypeLevel{{Type: "a"}, {Type: "a"}}},
		{Events: []api.TypeLevel{{Type: "\xff"}}}, {Users: users(391)},
	} {
		if v, is := content.LevelsBody(l); is || !json.Same(v, api.Json{}) {
			t.Errorf("%d: LevelsBody = %.90v, %v", i, v, is)
		}
	}
	if _, is := content.LevelsBody(api.Levels{Users: users(390)}); !is {
		t.Error("a body with 400 values is one")
	}
}

func TestP6_3SameLevels(t *testing.T) {
	l := []api.Levels{
		{}, {UsersDefault: 1}, {EventsDefault: 1}, {StateDefault: 1}, {Ban: 1}, {Kick: 1}, {Redact: 1}, {Invite: 1}, {Users: []api.UserLevel{{User: "a", N: 1}}}, {Users: []api.UserLevel{{User: "b", N: 1}}},
		{Users: []api.UserLevel{{User: "a", N: 2}}}, {Users: []api.UserLevel{{User: "a", N: 1}, {User: "b"}}}, {Users: []api.UserLevel{{User: "b"}, {User: "a", N: 1}}}, {Events: []api.TypeLevel{{Type: "a", N: 1}}},
		{Events: []api.TypeLevel{{Type: "b", N: 1}}}, {Events: []api.TypeLevel{{Type: "a"}}}, usual(),
	}
	for i, a := range l {
		for j, b := range l {
			b.Users, b.Events = slices.Clone(b.Users), slices.Clone(b.Events)
			if got := content.SameLevels(a, b); got != (i == j) {
				t.Errorf("SameLevels of %d and %d is %v", i, j, got)
			}
		}
	}
	if !content.SameLevels(api.Levels{Users: []api.UserLevel{}, Events: []api.TypeLevel{}}, api.Levels{}) {
		t.Error("a nil slice and an empty one are the same")
	}
}

func TestP6_4ReadingWhatWasMade(t *testing.T) {
	r := rand.New(rand.NewSource(10))
	word := func() string {
		return []string{"a", "\u20ac\n", "*", "", strings.Repeat("y", 128)}[r.Intn(5)] + strconv.Itoa(r.Intn(50))
	}
	n := func() int64 { return r.Int63n(2*api.MostNumber+1) - api.MostNumber }
	for range 2000 {
		l := api.Levels{UsersDefault: n(), EventsDefault: n(), StateDefault: n(), Ban: n(), Kick: n(), Redact: n(), Invite: n()}
		names := map[string]bool{}
		for range r.Intn(6) {
			names[word()] = true
		}
		for s := range names {
			l.Users = append(l.Users, api.UserLevel{User: "@" + strconv.Itoa(len(s)*1000+len(l.Users)) + ":s", N: n()})
			l.Events = append(l.Events, api.TypeLevel{Type: s, N: n()})
		}
		sort.Slice(l.Users, func(i, j int) bool { return l.Users[i].User < l.Users[j].User })
		sort.Slice(l.Events, func(i, j int) bool { return l.Events[i].Type < l.Events[j].Type })
		v, is := content.LevelsBody(l)
		if back, read := content.LevelsOf(v); !is || !read || !content.SameLevels(back, l) {
			t.Fatalf("%v is read as %v", l, back)
		}
		rule := api.RuleBody{Entity: word(), Recommendation: "m" + strconv.Itoa(r.Intn(9)), Reason: []string{"", word()}[r.Intn(2)]}
		v, is = content.RuleBody(rule)
		if back, read := content.RuleOf(v); !is || !read || back != rule {
			t.Fatalf("%v is read as %v", rule, back)
		}
		var acl api.Acl
		for range r.Intn(5) {
			acl.Allow, acl.Deny = append(acl.Allow, word()), append(acl.Deny, word(), "")
		}
		v, is = content.AclBody(acl)
		if back, read := content.AclOf(v); !is || !read || !slices.Equal(back.Allow, acl.Allow) || !slices.Equal(back.Deny, acl.Deny) {
			t.Fatalf("%v is read as %v", acl, back)
		}
	}
	for m := api.MemberInvite; m <= api.MemberBan; m++ {
		v, _ := content.MemberBody(m)
		if back, is := content.MemberOf(v); !is || back != m {
			t.Error(m, back)
		}
	}
	v, _ := content.CreateBody("@a:S")
	if back, is := content.CreatorOf(v); !is || back != "@a:S" {
		t.Error(back)
	}
}
