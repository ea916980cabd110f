package content

import (
	"slices"

	"outlaw/api"
	"outlaw/canon"
	"outlaw/ident"
	"outlaw/json"
)

// A pair is a key of a body with its value.
type pair struct {
	key  string
	item api.Json
}

// object makes an object of pairs.
func object(pairs ...pair) api.Json {
	v := api.Json{Kind: api.JsonObject}
	for _, p := range pairs {
		v.Keys, v.Items = append(v.Keys, p.key), append(v.Items, p.item)
	}
	return v
}

// body makes a canonical body of pairs, if it is a valid value.
func body(pairs ...pair) (api.Json, bool) {
	v := object(pairs...)
	if json.Check(v) != api.OK {
		return api.Json{}, false
	}
	return canon.Canon(v), true
}

func text(key, s string) pair {
	return pair{key, api.Json{Kind: api.JsonText, Text: s}}
}

func texts(key string, l []string) pair {
	v := api.Json{Kind: api.JsonList}
	for _, s := range l {
		v.Items = append(v.Items, text("", s).item)
	}
	return pair{key, v}
}

func number(key string, n int64) pair {
	return pair{key, api.Json{Kind: api.JsonNumber, N: n}}
}

// MemberBody makes the body for a membership.
func MemberBody(membership int) (api.Json, bool) {
	words := memberships()
	if membership <= api.MemberNone || membership >= len(words) {
		return api.Json{}, false
	}
	return body(text("membership", words[membership]))
}

// CreateBody makes the body for the creation of a room.
func CreateBody(creator string) (api.Json, bool) {
	if !ident.User(creator) {
		return api.Json{}, false
	}
	return body(text("creator", creator))
}

// RuleBody makes the body of a rule.
func RuleBody(r api.RuleBody) (api.Json, bool) {
	if !ruleFits(r) {
		return api.Json{}, false
	}
	pairs := []pair{text("entity", r.Entity), text("recommendation", r.Recommendation)}
	if r.Reason != "" {
		pairs = append(pairs, text("reason", r.Reason))
	}
	return body(pairs...)
}

// AclBody makes the body of a server ACL.
func AclBody(a api.Acl) (api.Json, bool) {
	if !aclFits(a) {
		return api.Json{}, false
	}
	return body(texts("allow", a.Allow), texts("deny", a.Deny))
}

// LevelsBody makes the body of power levels.
func LevelsBody(l api.Levels) (api.Json, bool) {
	if !levelsFit(l) {
		return api.Json{}, false
	}
	var users, events []pair
	for _, u := range l.Users {
		users = append(users, number(u.User, u.N))
	}
	for _, t := range l.Events {
		events = append(events, number(t.Type, t.N))
	}
	pairs := []pair{{"users", object(users...)}, {"events", object(events...)}}
	for key, n := range numbersOf(&l) {
		pairs = append(pairs, number(key, *n))
	}
	return body(pairs...)
}

// levelsFit checks the order of the lists, and the users; numbers and texts are checked with the body.
func levelsFit(l api.Levels) bool {
	for i, u := range l.Users {
		if !ident.User(u.User) || i > 0 && l.Users[i-1].User >= u.User {
			return false
		}
	}
	for i, t := range l.Events {
		if i > 0 && l.Events[i-1].Type >= t.Type {
			return false
		}
	}
	return true
}

// SameLevels reports whether any two levels are equal in all fields.
func SameLevels(a, b api.Levels) bool {
	return slices.Equal(a.Users, b.Users) && slices.Equal(a.Events, b.Events) &&
		a.UsersDefault == b.UsersDefault && a.EventsDefault == b.EventsDefault && a.StateDefault == b.StateDefault &&
		a.Ban == b.Ban && a.Kick == b.Kick && a.Redact == b.Redact && a.Invite == b.Invite
}
