package machine_test

import (
	"strconv"
	"testing"

	"outlaw/api"
	"outlaw/content"
	"outlaw/event"
	"outlaw/machine"
	"outlaw/power"
	"outlaw/record"
)

const (
	bot    = "@bot:home.org"
	mod    = "@mod:policy.org"
	alice  = "@alice:good.org"
	eve    = "@eve:evil.com"
	room   = "!r:home.org"
	other  = "!s:home.org"
	policy = "!p:policy.org"
)

// world makes the events of rooms, each after the one before it in its room.
type world struct {
	last map[string]string
	n    int
}

func newWorld() *world { return &world{last: map[string]string{}} }

func (w *world) event(room, sender, typ string, body api.Json) api.Event {
	w.n++
	e := api.Event{ID: "$" + strconv.Itoa(w.n), Room: room, Sender: sender, Type: typ, TS: int64(w.n), Body: body}
	if w.last[room] != "" {
		e.Prev = []string{w.last[room]}
	}
	w.last[room] = e.ID
	return e
}

func (w *world) state(room, sender, typ, key string, body api.Json) api.Event {
	e := w.event(room, sender, typ, body)
	e.State, e.Key = true, key
	return e
}

func empty() api.Json { return api.Json{Kind: api.JsonObject} }

func (w *world) create(room, sender string) api.Event {
	body, _ := content.CreateBody(sender)
	return w.state(room, sender, api.TypeCreate, "", body)
}

func (w *world) member(room, sender, user string, membership int) api.Event {
	body, _ := content.MemberBody(membership)
	return w.state(room, sender, api.TypeMember, user, body)
}

func (w *world) join(room, user string) api.Event {
	return w.member(room, user, user, api.MemberJoin)
}

// rule is one of a policy room; without an entity it is retracted.
func (w *world) rule(room, kind, key, entity, reason string) api.Event {
	body, is := content.RuleBody(api.RuleBody{Entity: entity, Recommendation: "m.ban", Reason: reason})
	if !is {
		body = empty()
	}
	return w.state(room, mod, "m.policy.rule."+kind, key, body)
}

func (w *world) levels(room, sender string, l api.Levels) api.Event {
	body, _ := content.LevelsBody(l)
	return w.state(room, sender, api.TypeLevels, "", body)
}

func (w *world) message(room, sender string) api.Event {
	return w.event(room, sender, "m.room.message", empty())
}

// acl is the echo of an ACL.
func (w *world) acl(room string, deny ...string) api.Event {
	body, _ := content.AclBody(api.Acl{Allow: []string{"*"}, Deny: deny})
	return w.state(room, bot, api.TypeAcl, "", body)
}

func (w *world) redaction(room, sender, of string) api.Event {
	e := w.event(room, sender, api.TypeRedaction, empty())
	e.Redacts = of
	return e
}

// begin are the first events of a room of the bot, and those of a policy room.
func (w *world) begin() []api.Event {
	return []api.Event{w.create(room, bot), w.join(room, bot), w.create(policy, mod), w.join(policy, mod)}
}

func arrives(e api.Event) api.Input {
	s, _ := event.Bytes(e)
	return record.Take(s)
}

func command(code int, text string) api.Input { return record.Command(code, text) }

func reply(txn int64, ok bool) api.Input { return api.Input{Kind: api.InReply, N: txn, OK: ok} }

func tick(n int64) api.Input { return api.Input{Kind: api.InTick, N: n} }

func restart() api.Input { return api.Input{Kind: api.InRestart} }

func made(t *testing.T) *machine.Machine {
	t.Helper()
	m, e := machine.New(bot)
	if e != api.OK {
		t.Fatal(e)
	}
	return m
}

// begun is a machine that protects a room of the bot, and is subscribed to a policy room.
func begun(t *testing.T) (*machine.Machine, *world) {
	t.Helper()
	m, w := made(t), newWorld()
	for _, e := range w.begin() {
		does(t, m, arrives(e))
	}
	does(t, m, command(api.CmdProtect, room), told(api.NoteCommand, api.CmdProtect, room))
	does(t, m, command(api.CmdSubscribe, policy), told(api.NoteCommand, api.CmdSubscribe, policy))
	return m, w
}

// told is a note without a transaction.
func told(kind, code int, text string) api.Out {
	return api.Out{Kind: api.OutNote, Note: api.Note{Kind: kind, Code: code, Text: text}}
}

// of is a note of a transaction.
func of(kind int, txn int64, a api.Action) api.Out {
	return api.Out{Kind: api.OutNote, Note: api.Note{Kind: kind, Txn: txn, Action: a}}
}

// sent are the note that a transaction is sent, and the action that is.
func sent(txn int64, a api.Action) []api.Out {
	return []api.Out{of(api.NoteSent, txn, a), {Kind: api.OutEmit, Txn: txn, Action: a}}
}

// started are what is reported for an action that is queued and sent.
func started(txn int64, a api.Action) []api.Out {
	return append([]api.Out{of(api.NoteQueued, txn, a)}, sent(txn, a)...)
}

func all(l ...[]api.Out) []api.Out {
	var out []api.Out
	for _, x := range l {
		out = append(out, x...)
	}
	return out
}

// does says what a machine must report for an input that is accepted.
func does(t *testing.T, m *machine.Machine, in api.Input, want ...api.Out) {
	t.Helper()
	got := m.Do(in)
	want = append([]api.Out{{Kind: api.OutCode}}, want...)
	if !machine.SameOuts(got, want) {
		t.Fatalf("for %s:\n%v\nwant\n%v", record.Line(in), got, want)
	}
}

// refuses says that a machine must reject an input, and that only the log changes.
func refuses(t *testing.T, m *machine.Machine, in api.Input, e api.Errno) {
	t.Helper()
	before := m.View()
	got := m.Do(in)
	if !machine.SameOuts(got, []api.Out{{Kind: api.OutCode, Code: e}, told(api.NoteRefused, int(e), "")}) {
		t.Fatalf("for %s: %v, want the error %d", record.Line(in), got, e)
	}
	after := m.View()
	if n := len(before.Notes); len(after.Notes) != n+1 || after.Notes[n] != (api.Note{Kind: api.NoteRefused, Code: int(e)}) {
		t.Fatalf("the notes after %s", record.Line(in))
	}
	after.Notes = before.Notes
	if !machine.SameView(before, after) {
		t.Fatalf("%s is rejected, but changes something", record.Line(in))
	}
}

func ban(user, reason string) api.Action {
	return api.Action{Kind: api.ActBan, Room: room, Subject: user, Reason: reason}
}

func unban(user string) api.Action {
	return api.Action{Kind: api.ActUnban, Room: room, Subject: user}
}

// weak are levels by which the bot may do nothing, and alice everything.
func weak() api.Levels {
	l := power.Default(alice)
	l.Users = append(l.Users, api.UserLevel{User: bot, N: 10})
	return l
}
