package plan

import (
	"slices"
	"strings"

	"outlaw/api"
	"outlaw/auth"
	"outlaw/content"
	"outlaw/event"
	"outlaw/power"
)

// What the bot puts into an ACL at most.
const (
	mostPatterns = 100
	mostDeny     = 2000
)

// A right decides whether the bot, which is joined, may do an action.
type right func(x api.Resolved, bot string, a api.Action) bool

// rights are what the bot may do, by the kinds of actions.
func rights() map[int]right {
	return map[int]right{
		api.ActBan:    mayBan,
		api.ActUnban:  mayUnban,
		api.ActAcl:    mayDeny,
		api.ActRedact: mayRedact,
	}
}

// Permitted reports whether the bot may do an action.
func Permitted(x api.Resolved, bot string, a api.Action) bool {
	may, is := rights()[a.Kind]
	return is && auth.Membership(x.State, bot) == api.MemberJoin && may(x, bot, a)
}

func mayBan(x api.Resolved, bot string, a api.Action) bool {
	l := auth.Levels(x.State)
	return power.May(l, bot, api.PowBan) && power.Above(l, bot, a.Subject)
}

func mayUnban(x api.Resolved, bot string, a api.Action) bool {
	return mayBan(x, bot, a) && auth.Membership(x.State, a.Subject) == api.MemberBan
}

func mayDeny(x api.Resolved, bot string, a api.Action) bool {
	return power.Send(auth.Levels(x.State), bot, api.TypeAcl, true) && len(patterns(a.Deny)) <= mostPatterns && len(a.Deny) <= mostDeny
}

func mayRedact(x api.Resolved, bot string, a api.Action) bool {
	l := auth.Levels(x.State)
	if !power.Send(l, bot, api.TypeRedaction, false) {
		return false
	}
	return power.May(l, bot, api.PowRedact) || slices.ContainsFunc(x.Messages, func(m api.Message) bool {
		return m.ID == a.Subject && m.Sender == bot
	})
}

// patterns returns what is between the blanks of an ACL.
func patterns(deny string) []string {
	if deny == "" {
		return nil
	}
	return strings.Split(deny, " ")
}

// Echo returns the event of an action.
func Echo(a api.Action, bot, id string, ts int64, prev []string) (api.Event, api.Errno) {
	e := api.Event{ID: id, Room: a.Room, Sender: bot, State: true, TS: ts, Prev: slices.Clone(prev)}
	// What content makes no body for gets none here either, and is refused below.
	switch a.Kind {
	case api.ActBan:
		e.Type, e.Key = api.TypeMember, a.Subject
		e.Body, _ = content.MemberBody(api.MemberBan)
	case api.ActUnban:
		e.Type, e.Key = api.TypeMember, a.Subject
		e.Body, _ = content.MemberBody(api.MemberLeave)
	case api.ActAcl:
		e.Type = api.TypeAcl
		e.Body, _ = content.AclBody(api.Acl{Allow: []string{"*"}, Deny: patterns(a.Deny)})
	case api.ActRedact:
		e.Type, e.State, e.Redacts = api.TypeRedaction, false, a.Subject
		e.Body = api.Json{Kind: api.JsonObject}
	default:
		return api.Event{}, api.ErrArg
	}
	if err := event.Check(e); err != api.OK {
		return api.Event{}, err
	}
	return e, api.OK
}
