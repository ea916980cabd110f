package auth

import (
	"slices"
	"strings"

	"outlaw/api"
	"outlaw/content"
	"outlaw/event"
	"outlaw/ident"
	"outlaw/power"
)

// What stands for the types that have no rules of their own.
const (
	anyState   = "state"
	anyMessage = "message"
)

// A trial is an event before the state that it meets.
type trial struct {
	state  api.State
	event  api.Event
	of     string
	levels api.Levels // those in force
	wanted int        // the membership in the body
	set    api.Levels // the levels in the body
}

// A rule returns the reason why an event is rejected, or WhyNone.
type rule func(t *trial) int

// typeOf returns the type by which the rules for e are found.
func typeOf(e api.Event) string {
	switch {
	case e.Type == api.TypeCreate, e.Type == api.TypeMember, e.Type == api.TypeLevels, event.Redaction(e):
		return e.Type
	case e.State:
		return anyState
	}
	return anyMessage
}

// rulesByType are the rules for valid events, in the order in which they count.
func rulesByType() map[string][]rule {
	created := unless(api.WhyNoCreate, (*trial).created)
	joined := unless(api.WhySender, (*trial).senderJoined)
	sends := unless(api.WhyLevel, (*trial).maySend)
	return map[string][]rule{
		api.TypeCreate:    {unless(api.WhyCreate, (*trial).creates)},
		api.TypeMember:    {created, unless(api.WhyBody, (*trial).isMember), byMembership},
		api.TypeLevels:    {created, joined, unless(api.WhyBody, (*trial).isLevels), sends, unless(api.WhyLevel, (*trial).mayReplace)},
		api.TypeRedaction: {created, joined, sends, unless(api.WhyRedact, (*trial).mayRedact)},
		anyState:          {created, joined, unless(api.WhyTarget, (*trial).ownKey), sends},
		anyMessage:        {created, joined, sends},
	}
}

// byMembership tries the rules for the membership that is wanted.
func byMembership(t *trial) int {
	joined := unless(api.WhySender, (*trial).senderJoined)
	rules := map[int][]rule{
		api.MemberJoin:   {unless(api.WhyTarget, (*trial).self), when(api.WhyBanned, targetIs(api.MemberBan))},
		api.MemberInvite: {joined, when(api.WhyBanned, targetIs(api.MemberBan)), when(api.WhyTarget, targetIs(api.MemberJoin)), unless(api.WhyLevel, may(api.PowInvite))},
		api.MemberBan:    {joined, unless(api.WhyLevel, mayTo(api.PowBan))},
		api.MemberLeave:  {joined, mayRemove},
	}
	if t.self() {
		rules[api.MemberLeave] = []rule{unless(api.WhyTarget, targetIs(api.MemberJoin, api.MemberInvite))}
	}
	return t.try(rules[t.wanted])
}

// mayRemove is for a user whom another one makes leave.
func mayRemove(t *trial) int {
	switch Membership(t.state, t.event.Key) {
	case api.MemberBan:
		return unless(api.WhyLevel, mayTo(api.PowBan))(t)
	case api.MemberJoin, api.MemberInvite:
		return unless(api.WhyLevel, mayTo(api.PowKick))(t)
	}
	return api.WhyTarget
}

// try returns the first reason of the rules.
func (t *trial) try(rules []rule) int {
	for _, r := range rules {
		if why := r(t); why != api.WhyNone {
			return why
		}
	}
	return api.WhyNone
}

func unless(why int, holds func(t *trial) bool) rule {
	return func(t *trial) int {
		if holds(t) {
			return api.WhyNone
		}
		return why
	}
}

func when(why int, holds func(t *trial) bool) rule {
	return unless(why, func(t *trial) bool { return !holds(t) })
}

func targetIs(memberships ...int) func(t *trial) bool {
	return func(t *trial) bool {
		return slices.Contains(memberships, Membership(t.state, t.event.Key))
	}
}

func may(act int) func(t *trial) bool {
	return func(t *trial) bool { return power.May(t.levels, t.event.Sender, act) }
}

// mayTo is for an act on a user, who must be below.
func mayTo(act int) func(t *trial) bool {
	return func(t *trial) bool {
		return power.May(t.levels, t.event.Sender, act) && power.Above(t.levels, t.event.Sender, t.event.Key)
	}
}

func (t *trial) created() bool { return t.state.Creator != "" }

func (t *trial) self() bool { return t.event.Key == t.event.Sender }

func (t *trial) senderJoined() bool {
	return Membership(t.state, t.event.Sender) == api.MemberJoin
}

func (t *trial) maySend() bool {
	return power.Send(t.levels, t.event.Sender, t.event.Type, t.event.State)
}

// ownKey keeps keys that are users for these.
func (t *trial) ownKey() bool {
	return !strings.HasPrefix(t.event.Key, "@") || t.self()
}

func (t *trial) creates() bool {
	creator, is := content.CreatorOf(t.event.Body)
	return is && creator == t.event.Sender && t.event.State && t.event.Key == "" && !t.created() && len(t.event.Prev) == 0
}

func (t *trial) isMember() bool {
	membership, is := content.MemberOf(t.event.Body)
	t.wanted = membership
	return is && t.event.State && ident.User(t.event.Key)
}

func (t *trial) isLevels() bool {
	levels, is := content.LevelsOf(t.event.Body)
	t.set = levels
	return is && t.event.State && t.event.Key == ""
}

func (t *trial) mayReplace() bool {
	return power.Change(t.levels, t.set, t.event.Sender)
}

func (t *trial) mayRedact() bool {
	return power.May(t.levels, t.event.Sender, api.PowRedact) || t.of == t.event.Sender
}
