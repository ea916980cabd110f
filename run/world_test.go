package run_test

import (
	"math/rand"
	"slices"
	"strconv"
	"strings"
	"testing"

	"outlaw/api"
	"outlaw/content"
	"outlaw/disk"
	"outlaw/event"
	"outlaw/home"
	"outlaw/power"
	"outlaw/record"
	"outlaw/tower"
)

const (
	bot    = "@bot:home.org"
	mod    = "@mod:policy.org"
	alice  = "@alice:good.org"
	eve    = "@eve:evil.com"
	room   = "!r:home.org"
	other  = "!s:home.org"
	policy = "!p:policy.org"
)

// world makes the events of rooms, each after the one before it in its room.
type world struct {
	last map[string]string
	n    int
}

func newWorld() *world { return &world{last: map[string]string{}} }

func (w *world) event(room, sender, typ string, body api.Json) api.Event {
	w.n++
	e := api.Event{ID: "$" + strconv.Itoa(w.n), Room: room, Sender: sender, Type: typ, TS: int64(w.n), Body: body}
	if w.last[room] != "" {
		e.Prev = []string{w.last[room]}
	}
	w.last[room] = e.ID
	return e
}

func (w *world) state(room, sender, typ, key string, body api.Json) api.Event {
	e := w.event(room, sender, typ, body)
	e.State, e.Key = true, key
	return e
}

func (w *world) create(room, sender string) api.Event {
	body, _ := content.CreateBody(sender)
	return w.state(room, sender, api.TypeCreate, "", body)
}

func (w *world) member(room, sender, user string, membership int) api.Event {
	body, _ := content.MemberBody(membership)
	return w.state(room, sender, api.TypeMember, user, body)
}

func (w *world) join(room, user string) api.Event {
	return w.member(room, user, user, api.MemberJoin)
}

func (w *world) message(room, sender string) api.Event {
	return w.event(room, sender, "m.room.message", api.Json{Kind: api.JsonObject})
}

// rule is one of a policy room; without an entity it is retracted.
func (w *world) rule(kind, key, entity, reason string) api.Event {
	body, is := content.RuleBody(api.RuleBody{Entity: entity, Recommendation: "m.ban", Reason: reason})
	if !is {
		body = api.Json{Kind: api.JsonObject}
	}
	return w.state(policy, mod, "m.policy.rule."+kind, key, body)
}

func (w *world) levels(room, sender string, l api.Levels) api.Event {
	slices.SortFunc(l.Users, func(a, b api.UserLevel) int { return strings.Compare(a.User, b.User) })
	body, _ := content.LevelsBody(l)
	return w.state(room, sender, api.TypeLevels, "", body)
}

// begin are the first events of a room of the bot, of one of alice where the bot has the level 60, and of a policy room.
func (w *world) begin() []api.Event {
	l := power.Default(alice)
	l.Users = append(l.Users, api.UserLevel{User: bot, N: 60})
	return []api.Event{w.create(room, bot), w.join(room, bot), w.create(other, alice), w.join(other, alice), w.join(other, bot), w.levels(other, alice, l), w.create(policy, mod), w.join(policy, mod)}
}

// history are more events, some of which do not fit what came before.
func (w *world) history(r *rand.Rand, n int) []api.Event {
	var l []api.Event
	users := []string{eve, alice, "@eve2:evil.com", "@x:Evil.com", "@y:good.org"}
	for range n {
		where := []string{room, other}[r.Intn(2)]
		user := users[r.Intn(5)]
		switch r.Intn(8) {
		case 0, 1, 2:
			l = append(l, w.join(where, user))
		case 3, 4:
			l = append(l, w.message(where, user))
		case 5:
			l = append(l, w.rule("user", []string{"k", "l"}[r.Intn(2)], []string{"@eve*", "@*:evil.com", "@x*", "", "@y:*"}[r.Intn(5)], []string{"", "spam"}[r.Intn(2)]))
		case 6:
			l = append(l, w.rule("server", "s", []string{"evil.*", "EVIL.com", "", "good.org", "*"}[r.Intn(5)], ""))
		case 7:
			l = append(l, w.member(where, []string{bot, alice}[r.Intn(2)], user, []int{api.MemberBan, api.MemberLeave}[r.Intn(2)]))
		}
	}
	return l
}

func arrives(e api.Event) api.Input {
	s, _ := event.Bytes(e)
	return record.Take(s)
}

func command(code int, text string) api.Input { return record.Command(code, text) }

func commands() []api.Input {
	return []api.Input{command(api.CmdProtect, room), command(api.CmdProtect, other), command(api.CmdSubscribe, policy), command(api.CmdAllow, "@y:good.org")}
}

func reply(txn int64, ok bool) api.Input { return api.Input{Kind: api.InReply, N: txn, OK: ok} }

func restart() api.Input { return api.Input{Kind: api.InRestart} }

func tick(n int64) api.Input { return api.Input{Kind: api.InTick, N: n} }

// both are a tower on a disk and a home.
type both struct {
	t *tower.Tower
	h *home.Home
	d *disk.Disk
}

func newBoth(t *testing.T, sectors int) *both {
	t.Helper()
	d, e := disk.New(sectors)
	h, f := home.New(bot)
	x, _, g := tower.Open(bot, d)
	if e != api.OK || f != api.OK || g != api.OK {
		t.Fatal(e, f, g)
	}
	return &both{x, h, d}
}

// does makes the tower take an input, and sends what it reports to the home.
func (b *both) does(t *testing.T, in api.Input) []api.Out {
	t.Helper()
	outs, e := b.t.Do(in)
	if e != api.OK {
		t.Fatal(e)
	}
	b.send(outs)
	return outs
}

func (b *both) send(outs []api.Out) {
	for _, o := range outs {
		if o.Kind == api.OutEmit {
			b.h.Send(o.Txn, o.Action)
		}
	}
}

// happens puts events into the home, and makes the tower take them.
func (b *both) happens(t *testing.T, l ...api.Event) {
	t.Helper()
	for _, e := range l {
		if e := b.h.Put(e); e != api.OK {
			t.Fatal(e)
		}
		b.does(t, arrives(e))
	}
}
