package machine_test

import (
	"fmt"
	"slices"
	"strconv"
	"strings"
	"testing"

	"outlaw/api"
	"outlaw/audit"
	"outlaw/machine"
	"outlaw/power"
	"outlaw/record"
	"outlaw/resolve"
	rooms "outlaw/room"
	"outlaw/target"
)

func TestP26_1New(t *testing.T) {
	for who, want := range map[string]api.Errno{bot: 0, "": api.ErrID, "bot": api.ErrID, "@B:x": api.ErrID, "!r:x": api.ErrID} {
		m, e := machine.New(who)
		if e != want || (m == nil) != (e != api.OK) {
			t.Errorf("New(%q): %v", who, e)
		}
		if m != nil && !machine.SameView(m.View(), api.View{Bot: bot, Queue: api.Queue{Next: 1}}) {
			t.Errorf("New(%q) is not empty", who)
		}
	}
}

func TestP26_1Invalid(t *testing.T) {
	for i, m := range []*machine.Machine{nil, {}} {
		if got := m.Do(restart()); !machine.SameOuts(got, []api.Out{{Kind: api.OutCode, Code: api.ErrNil}}) {
			t.Errorf("%d: %v", i, got)
		}
		if len(m.Run([]api.Input{restart()})) != 0 || !machine.SameView(m.View(), api.View{}) || len(m.Notes()) != 0 || fmt.Sprint(m.Queue()) != fmt.Sprint(api.Queue{}) || m.Bot() != "" {
			t.Errorf("%d: a machine that New did not return does something", i)
		}
	}
}

func TestP26_1Examples(t *testing.T) {
	m := made(t)
	refuses(t, m, command(9, ""), api.ErrArg)
	refuses(t, m, reply(5, true), api.ErrNone)
	if got := audit.Text(m.Notes()); got != "refused 2\nrefused 12\n" {
		t.Error(got)
	}
}

func TestP26_1Refused(t *testing.T) {
	m, w := begun(t)
	bad := arrives(w.message(room, bot))
	bad.Text = strings.Replace(bad.Text, `"$`, `"`, 1)
	for i, x := range []struct {
		in   api.Input
		want api.Errno
	}{
		{api.Input{}, api.ErrKind}, {api.Input{Kind: 7}, api.ErrKind}, {api.Input{Kind: api.InTick, N: -1}, api.ErrArg}, {api.Input{Kind: api.InTick, OK: true}, api.ErrArg}, {command(1, strings.Repeat("x", 301)), api.ErrLong}, {api.Input{Kind: api.InEvent, Text: strings.Repeat("x", 4097)}, api.ErrLong},
		{command(256, room), api.ErrArg}, {command(-1, room), api.ErrArg}, {command(0, ""), api.ErrArg}, {command(8, ""), api.ErrArg}, {command(255, ""), api.ErrArg}, {record.Take(strings.Repeat("x", 5000)), api.ErrLong}, {api.Input{Kind: api.InLong, N: 4096}, api.ErrArg},
		{record.Take(""), api.ErrShort}, {record.Take("x"), api.ErrBad}, {record.Take("{}"), api.ErrField}, {record.Take("[]"), api.ErrKind}, {bad, api.ErrID}, {reply(0, true), api.ErrNone}, {reply(1, false), api.ErrNone}, {tick(1000001), api.ErrArg}, {tick(1 << 60), api.ErrArg},
		{command(api.CmdProtect, ""), api.ErrID}, {command(api.CmdProtect, "x"), api.ErrID}, {command(api.CmdProtect, "@a:x"), api.ErrID}, {command(api.CmdProtect, room), api.ErrTwice}, {command(api.CmdUnprotect, ""), api.ErrNone}, {command(api.CmdUnprotect, policy), api.ErrNone}, {command(api.CmdUnprotect, other), api.ErrNone},
		{command(api.CmdSubscribe, ""), api.ErrID}, {command(api.CmdSubscribe, "@a:x"), api.ErrID}, {command(api.CmdSubscribe, policy), api.ErrTwice}, {command(api.CmdUnsubscribe, room), api.ErrNone}, {command(api.CmdUnsubscribe, ""), api.ErrNone},
		{command(api.CmdAllow, ""), api.ErrID}, {command(api.CmdAllow, room), api.ErrID}, {command(api.CmdDisallow, ""), api.ErrID}, {command(api.CmdDisallow, "x"), api.ErrNone},
	} {
		refuses(t, m, x.in, x.want)
		if t.Failed() {
			t.Fatal(i)
		}
	}
}

func TestP26_1Commands(t *testing.T) {
	m := made(t)
	for i, x := range []struct {
		code int
		text string
		want api.Errno
	}{
		{api.CmdProtect, room, 0}, {api.CmdProtect, other, 0}, {api.CmdProtect, room, api.ErrTwice}, {api.CmdUnprotect, room, 0}, {api.CmdUnprotect, room, api.ErrNone}, {api.CmdProtect, room, 0}, {api.CmdSubscribe, policy, 0}, {api.CmdSubscribe, room, 0}, {api.CmdUnsubscribe, policy, 0},
		{api.CmdUnsubscribe, policy, api.ErrNone}, {api.CmdAllow, "EVIL.com", 0}, {api.CmdAllow, "evil.COM", api.ErrTwice}, {api.CmdAllow, alice, 0}, {api.CmdDisallow, "Evil.com", 0}, {api.CmdDisallow, "evil.com", api.ErrNone}, {api.CmdResync, "", 0}, {api.CmdResync, "any \xff", 0},
	} {
		if x.want != api.OK {
			refuses(t, m, command(x.code, x.text), x.want)
		} else {
			does(t, m, command(x.code, x.text), told(api.NoteCommand, x.code, x.text))
		}
		if t.Failed() {
			t.Fatal(i)
		}
	}
	v := m.View()
	if !slices.Equal(v.Protected, []string{room, other}) || !slices.Equal(v.Subscribed, []string{room}) || !slices.Equal(v.Allowed, []string{alice}) || len(v.Rooms) != 3 || v.Rooms[0].ID != policy || v.Rooms[1].ID != room {
		t.Error(v)
	}
}

func TestP26_1MostRooms(t *testing.T) {
	m, w := made(t), newWorld()
	name := func(i int) string { return "!" + strconv.Itoa(100+i) + ":x" }
	for i := range 16 {
		switch i % 3 {
		case 0:
			does(t, m, arrives(w.message(name(i), alice)))
		case 1:
			does(t, m, command(api.CmdProtect, name(i)), told(api.NoteCommand, api.CmdProtect, name(i)))
		case 2:
			does(t, m, command(api.CmdSubscribe, name(i)), told(api.NoteCommand, api.CmdSubscribe, name(i)))
		}
	}
	refuses(t, m, arrives(w.message("!new:x", alice)), api.ErrFull)
	refuses(t, m, command(api.CmdProtect, "!new:x"), api.ErrFull)
	refuses(t, m, command(api.CmdSubscribe, "!new:x"), api.ErrFull)
	refuses(t, m, command(api.CmdSubscribe, "new"), api.ErrID)
	refuses(t, m, command(api.CmdProtect, "new"), api.ErrID)
	refuses(t, m, command(api.CmdUnsubscribe, "!new:x"), api.ErrNone)
	refuses(t, m, command(api.CmdProtect, name(1)), api.ErrTwice)
	refuses(t, m, command(api.CmdSubscribe, name(2)), api.ErrTwice)
	does(t, m, command(api.CmdProtect, name(0)), told(api.NoteCommand, api.CmdProtect, name(0)))
	does(t, m, arrives(w.message(name(3), alice)))
	for i := range 16 {
		if i%3 != 2 {
			does(t, m, command(api.CmdSubscribe, name(i)), told(api.NoteCommand, api.CmdSubscribe, name(i)))
		}
	}
	refuses(t, m, command(api.CmdSubscribe, "!new:x"), api.ErrFull)
	refuses(t, m, command(api.CmdSubscribe, name(5)), api.ErrTwice)
	does(t, m, command(api.CmdUnprotect, name(1)), told(api.NoteCommand, api.CmdUnprotect, name(1)))
	does(t, m, command(api.CmdUnsubscribe, name(1)), told(api.NoteCommand, api.CmdUnsubscribe, name(1)))
	refuses(t, m, command(api.CmdProtect, "!new:x"), api.ErrFull)
	if len(m.View().Rooms) != 16 {
		t.Error("a room that is known stays so")
	}
}

func TestP26_1FullRoom(t *testing.T) {
	m, w := made(t), newWorld()
	for range 200 {
		does(t, m, arrives(w.message(room, alice)))
	}
	refuses(t, m, arrives(w.message(room, alice)), api.ErrFull)
	again := newWorld().message(room, alice)
	does(t, m, arrives(again))
	if n := len(m.View().Rooms[0].Resolved.Order); n != 200 {
		t.Error(n)
	}
}

func TestP26_1Time(t *testing.T) {
	m := made(t)
	does(t, m, tick(5))
	does(t, m, tick(0))
	does(t, m, tick(1000000))
	if q := m.Queue(); q.Now != 1000005 {
		t.Error(q.Now)
	}
}

func TestP26_1Ban(t *testing.T) {
	m, w := begun(t)
	does(t, m, arrives(w.rule(policy, "user", "k", "@eve:*", "spam")))
	does(t, m, arrives(w.join(room, alice)))
	does(t, m, arrives(w.join(room, eve)), started(1, ban(eve, "spam"))...)
	if q := m.Queue(); len(q.Jobs) != 1 || !q.Jobs[0].Flying || q.Next != 2 {
		t.Error(q)
	}
	refuses(t, m, reply(2, true), api.ErrNone)
	does(t, m, reply(1, true), of(api.NoteDone, 1, ban(eve, "spam")))
	refuses(t, m, reply(1, true), api.ErrNone)
	if q := m.Queue(); len(q.Jobs) != 0 || !slices.Equal(q.Settled, []api.Action{ban(eve, "spam")}) {
		t.Error("what was done and is still wanted is settled", q)
	}
	does(t, m, tick(100))
	does(t, m, arrives(w.member(room, bot, eve, api.MemberBan)))
	if q := m.Queue(); len(q.Settled) != 0 {
		t.Error("what is not wanted any more is not settled", q)
	}
	if v := m.View(); !slices.Equal(v.Rooms[1].Own, []string{eve}) {
		t.Error(v.Rooms[1].Own)
	}
	does(t, m, arrives(w.rule(policy, "user", "k", "", "")), started(2, unban(eve))...)
	does(t, m, reply(2, true), of(api.NoteDone, 2, unban(eve)))
	does(t, m, arrives(w.member(room, bot, eve, api.MemberLeave)))
	if v := m.View(); len(v.Rooms[1].Own) != 0 || len(v.Queue.Jobs)+len(v.Queue.Settled) != 0 || audit.Life(v.Notes) != -1 {
		t.Error(v.Rooms[1].Own, v.Queue)
	}
}

func TestP26_1Allowed(t *testing.T) {
	m, w := begun(t)
	does(t, m, command(api.CmdAllow, eve), told(api.NoteCommand, api.CmdAllow, eve))
	does(t, m, arrives(w.rule(policy, "user", "k", "@eve:*", "")))
	does(t, m, arrives(w.join(room, eve)))
	does(t, m, command(api.CmdDisallow, eve), all([]api.Out{told(api.NoteCommand, api.CmdDisallow, eve)}, started(1, ban(eve, "")))...)
	does(t, m, reply(1, false), of(api.NoteAgain, 1, ban(eve, "")))
	does(t, m, command(api.CmdAllow, "Evil.com"), told(api.NoteCommand, api.CmdAllow, "Evil.com"), of(api.NoteGone, 1, ban(eve, "")))
	does(t, m, command(api.CmdDisallow, "evil.COM"), all([]api.Out{told(api.NoteCommand, api.CmdDisallow, "evil.COM")}, started(2, ban(eve, "")))...)
}

// A rule for everybody bans nobody whom the bot must spare.
func TestP26_1TheBotItself(t *testing.T) {
	m, w := begun(t)
	does(t, m, arrives(w.rule(policy, "user", "k", "*", "")))
	does(t, m, arrives(w.rule(policy, "server", "k", "home.org", "")))
	if v := m.View(); len(v.Rooms[1].Target.Bans)+len(v.Rooms[1].Target.Deny)+len(v.Queue.Jobs) != 0 {
		t.Error(v.Rooms[1].Target)
	}
}

func TestP26_1Unprotect(t *testing.T) {
	m, w := begun(t)
	does(t, m, arrives(w.rule(policy, "user", "k", "@e*", "")))
	does(t, m, command(api.CmdUnprotect, room), told(api.NoteCommand, api.CmdUnprotect, room))
	users := []string{"@e1:x", "@e2:x", "@e3:x", "@e4:x", "@e5:x", "@e6:x"}
	for _, u := range users {
		does(t, m, arrives(w.join(room, u)))
	}
	want := []api.Out{told(api.NoteCommand, api.CmdProtect, room)}
	for i, u := range users {
		want = append(want, of(api.NoteQueued, int64(i+1), ban(u, "")))
	}
	for i, u := range users[:4] {
		want = append(want, sent(int64(i+1), ban(u, ""))...)
	}
	does(t, m, command(api.CmdProtect, room), want...)
	does(t, m, command(api.CmdUnprotect, room), told(api.NoteCommand, api.CmdUnprotect, room), of(api.NoteGone, 5, ban(users[4], "")), of(api.NoteGone, 6, ban(users[5], "")))
	does(t, m, reply(2, false), of(api.NoteAgain, 2, ban(users[1], "")), of(api.NoteGone, 2, ban(users[1], "")))
	does(t, m, reply(3, true), of(api.NoteDone, 3, ban(users[2], "")))
	if q := m.Queue(); len(q.Jobs) != 2 || len(q.Settled) != 0 || q.Next != 7 {
		t.Error(q)
	}
}

func TestP26_1MostFlying(t *testing.T) {
	m, w := begun(t)
	user := func(i int) string { return "@e" + strconv.Itoa(i) + ":x" }
	for i := range 6 {
		does(t, m, arrives(w.join(room, user(i))))
	}
	var want []api.Out
	for i := range 6 {
		want = append(want, of(api.NoteQueued, int64(i+1), ban(user(i), "")))
	}
	acl := api.Action{Kind: api.ActAcl, Room: room, Deny: "X"}
	want = append(want, of(api.NoteQueued, 7, acl))
	for i := range 4 {
		want = append(want, sent(int64(i+1), ban(user(i), ""))...)
	}
	does(t, m, arrives(w.rule(policy, "server", "k", "X", "")), want...)
	does(t, m, tick(1))
	does(t, m, reply(3, true), append([]api.Out{of(api.NoteDone, 3, ban(user(2), ""))}, sent(5, ban(user(4), ""))...)...)
	does(t, m, reply(1, false), append([]api.Out{of(api.NoteAgain, 1, ban(user(0), ""))}, sent(6, ban(user(5), ""))...)...)
	does(t, m, tick(5))
	does(t, m, reply(5, true), append([]api.Out{of(api.NoteDone, 5, ban(user(4), ""))}, sent(1, ban(user(0), ""))...)...)
	does(t, m, restart(), all(sent(1, ban(user(0), "")), sent(2, ban(user(1), "")), sent(4, ban(user(3), "")), sent(6, ban(user(5), "")))...)
	does(t, m, reply(6, true), append([]api.Out{of(api.NoteDone, 6, ban(user(5), ""))}, sent(7, acl)...)...)
}

func TestP26_1Tries(t *testing.T) {
	m, w := begun(t)
	does(t, m, arrives(w.rule(policy, "user", "k", "@eve:*", "")))
	a := ban(eve, "")
	does(t, m, arrives(w.join(room, eve)), started(1, a)...)
	for _, wait := range []int64{2, 4, 8, 16} {
		does(t, m, reply(1, false), of(api.NoteAgain, 1, a))
		does(t, m, tick(wait-1))
		refuses(t, m, reply(1, true), api.ErrState)
		does(t, m, tick(1), sent(1, a)...)
	}
	does(t, m, reply(1, false), of(api.NoteFailed, 1, a))
	does(t, m, tick(1000))
	does(t, m, restart())
	if q := m.Queue(); !slices.Equal(q.Failed, []api.Action{a}) || len(q.Jobs) != 0 {
		t.Error(q)
	}
	does(t, m, command(api.CmdResync, ""), all([]api.Out{told(api.NoteCommand, api.CmdResync, "")}, started(2, a))...)
	does(t, m, reply(2, true), of(api.NoteDone, 2, a))
	does(t, m, command(api.CmdResync, ""), all([]api.Out{told(api.NoteCommand, api.CmdResync, "")}, started(3, a))...)
}

func TestP26_1Restart(t *testing.T) {
	m, w := begun(t)
	does(t, m, restart())
	does(t, m, arrives(w.rule(policy, "user", "k", "@e*", "")))
	a := ban(eve, "")
	does(t, m, arrives(w.join(room, eve)), started(1, a)...)
	does(t, m, restart(), sent(1, a)...)
	does(t, m, restart(), sent(1, a)...)
	if q := m.Queue(); !q.Jobs[0].Flying || !q.Jobs[0].Doubt {
		t.Error(q)
	}
	does(t, m, arrives(w.rule(policy, "user", "k", "", "")))
	does(t, m, restart(), sent(1, a)...)
	does(t, m, reply(1, true), of(api.NoteDone, 1, a))
	if v := m.View(); audit.Life(v.Notes) != -1 || !slices.Equal(v.Rooms[1].Own, []string{eve}) {
		t.Error(audit.Text(v.Notes))
	}
	does(t, m, arrives(w.member(room, bot, eve, api.MemberBan)), started(2, unban(eve))...)
}

// What is in doubt is sent again only where it may be done.
func TestP26_1Barred(t *testing.T) {
	m, w := begun(t)
	does(t, m, arrives(w.join(room, alice)))
	does(t, m, arrives(w.rule(policy, "user", "k", "@e*", "")))
	a := ban(eve, "")
	does(t, m, arrives(w.join(room, eve)), started(1, a)...)
	does(t, m, command(api.CmdUnprotect, room), told(api.NoteCommand, api.CmdUnprotect, room))
	does(t, m, restart())
	does(t, m, tick(9))
	if q := m.Queue(); q.Jobs[0].Flying || !q.Jobs[0].Doubt {
		t.Error(q)
	}
	does(t, m, command(api.CmdProtect, room), all([]api.Out{told(api.NoteCommand, api.CmdProtect, room)}, sent(1, a))...)
	l := power.Default(bot)
	l.Users = append([]api.UserLevel{{User: alice, N: 100}}, l.Users...)
	does(t, m, arrives(w.levels(room, bot, l)))
	does(t, m, arrives(w.levels(room, bot, weak())))
	does(t, m, restart())
	does(t, m, reply(1, true), of(api.NoteDone, 1, a))
	does(t, m, restart())
}

func TestP26_1NoRights(t *testing.T) {
	m, w := begun(t)
	does(t, m, arrives(w.join(room, alice)))
	l := weak()
	l.Users = []api.UserLevel{{User: alice, N: 100}, {User: bot, N: 100}}
	does(t, m, arrives(w.levels(room, bot, l)))
	does(t, m, arrives(w.levels(room, bot, weak())))
	does(t, m, arrives(w.rule(policy, "user", "k", "@e*", "")))
	does(t, m, arrives(w.join(room, eve)))
	l.Users[1].N = 50
	does(t, m, arrives(w.levels(room, alice, l)), started(1, ban(eve, ""))...)
	does(t, m, reply(1, false), of(api.NoteAgain, 1, ban(eve, "")))
	does(t, m, arrives(w.levels(room, alice, weak())), of(api.NoteGone, 1, ban(eve, "")))
}

func TestP26_1QueueFull(t *testing.T) {
	m, w := begun(t)
	user := func(i int) string { return "@e" + strconv.Itoa(100+i) + ":x" }
	for i := range 35 {
		does(t, m, arrives(w.join(room, user(i))))
	}
	var want []api.Out
	for i := range 32 {
		want = append(want, of(api.NoteQueued, int64(i+1), ban(user(i), "")))
	}
	want = append(want, told(api.NoteFull, 0, ""))
	for i := range 4 {
		want = append(want, sent(int64(i+1), ban(user(i), ""))...)
	}
	does(t, m, arrives(w.rule(policy, "user", "k", "@e*", "")), want...)
	if q := m.Queue(); !q.Resync || len(q.Jobs) != 32 {
		t.Error(q.Resync, len(q.Jobs))
	}
	does(t, m, tick(1), told(api.NoteFull, 0, ""))
	refuses(t, m, reply(99, true), api.ErrNone)
	refuses(t, m, command(9, ""), api.ErrArg)
	for i := range 3 {
		want = []api.Out{of(api.NoteDone, int64(i+1), ban(user(i), "")), of(api.NoteQueued, int64(33+i), ban(user(32+i), ""))}
		if i < 2 {
			want = append(want, told(api.NoteFull, 0, ""))
		}
		does(t, m, reply(int64(i+1), true), append(want, sent(int64(5+i), ban(user(4+i), ""))...)...)
	}
	if q := m.Queue(); q.Resync || len(q.Jobs) != 32 {
		t.Error(q.Resync, len(q.Jobs))
	}
}

// Only the bot's own bans are lifted, and none that another rule requires.
func TestP26_1Lifted(t *testing.T) {
	m, w := begun(t)
	for i, u := range []string{"@e1:x", "@e2:x", "@e3:x"} {
		does(t, m, arrives(w.join(room, u)))
		if i == 2 {
			does(t, m, arrives(w.member(room, bot, u, api.MemberBan)))
		}
	}
	does(t, m, arrives(w.rule(policy, "user", "k", "@e*", "")), all([]api.Out{of(api.NoteQueued, 1, ban("@e1:x", "")), of(api.NoteQueued, 2, ban("@e2:x", ""))}, sent(1, ban("@e1:x", "")), sent(2, ban("@e2:x", "")))...)
	for i, u := range []string{"@e1:x", "@e2:x"} {
		does(t, m, reply(int64(i+1), true), of(api.NoteDone, int64(i+1), ban(u, "")))
		does(t, m, arrives(w.member(room, bot, u, api.MemberBan)))
	}
	does(t, m, arrives(w.rule(policy, "user", "l", "@e2:*", "")))
	does(t, m, arrives(w.rule(policy, "user", "k", "", "")), started(3, unban("@e1:x"))...)
	does(t, m, command(api.CmdUnsubscribe, policy), all([]api.Out{told(api.NoteCommand, api.CmdUnsubscribe, policy)}, started(4, unban("@e2:x")))...)
	if v := m.View(); !slices.Equal(v.Rooms[1].Own, []string{"@e1:x", "@e2:x"}) || len(v.Rules) != 0 {
		t.Error(v.Rooms[1].Own)
	}
}

func TestP26_1AclAndRedactions(t *testing.T) {
	m, w := begun(t)
	msg := w.message(room, eve)
	join := w.join(room, eve)
	join.Prev, msg.Prev = msg.Prev, []string{join.ID}
	join.TS = msg.TS
	acl := api.Action{Kind: api.ActAcl, Room: room, Deny: "bad.* evil.com"}
	redact := api.Action{Kind: api.ActRedact, Room: room, Subject: msg.ID}
	does(t, m, arrives(w.rule(policy, "server", "a", "evil.com", "spam")), started(1, api.Action{Kind: api.ActAcl, Room: room, Deny: "evil.com"})...)
	does(t, m, arrives(w.rule(policy, "server", "b", "bad.*", "")))
	does(t, m, reply(1, false), of(api.NoteAgain, 1, api.Action{Kind: api.ActAcl, Room: room, Deny: "evil.com"}), of(api.NoteGone, 1, api.Action{Kind: api.ActAcl, Room: room, Deny: "evil.com"}), of(api.NoteQueued, 2, acl), of(api.NoteSent, 2, acl), api.Out{Kind: api.OutEmit, Txn: 2, Action: acl})
	does(t, m, arrives(msg))
	does(t, m, arrives(join), all([]api.Out{of(api.NoteQueued, 3, ban(eve, "spam")), of(api.NoteQueued, 4, redact)}, sent(3, ban(eve, "spam")), sent(4, redact))...)
	w.last[room] = msg.ID
	does(t, m, reply(4, true), of(api.NoteDone, 4, redact))
	does(t, m, arrives(w.redaction(room, bot, msg.ID)))
	does(t, m, reply(2, true), of(api.NoteDone, 2, acl))
	does(t, m, arrives(w.acl(room, "bad.*", "evil.com")))
	v := m.View()
	if len(v.Rooms[1].Target.Redact) != 0 || !slices.Equal(v.Rooms[1].Target.Deny, []string{"bad.*", "evil.com"}) || len(v.Queue.Settled) != 0 || len(v.Queue.Jobs) != 1 {
		t.Error(v.Rooms[1].Target, v.Queue)
	}
}

// Rooms are served in increasing order, whatever the order of the commands was.
func TestP26_1RoomsInOrder(t *testing.T) {
	m, w := made(t), newWorld()
	for _, id := range []string{other, room} {
		does(t, m, arrives(w.create(id, bot)))
		does(t, m, arrives(w.join(id, bot)))
		does(t, m, arrives(w.join(id, eve)))
		does(t, m, command(api.CmdProtect, id), told(api.NoteCommand, api.CmdProtect, id))
	}
	does(t, m, arrives(w.create(policy, mod)))
	does(t, m, arrives(w.join(policy, mod)))
	does(t, m, arrives(w.rule(policy, "user", "k", "@eve:*", "")))
	there := ban(eve, "")
	there.Room = other
	does(t, m, command(api.CmdSubscribe, policy), all([]api.Out{told(api.NoteCommand, api.CmdSubscribe, policy), of(api.NoteQueued, 1, ban(eve, "")), of(api.NoteQueued, 2, there)}, sent(1, ban(eve, "")), sent(2, there))...)
}

// The rules are those of subscribed rooms, by their state alone.
func TestP26_1Rules(t *testing.T) {
	m, w := begun(t)
	r1, r2 := w.rule(policy, "user", "k", "@a*", ""), w.rule(policy, "user", "k", "@b*", "")
	does(t, m, arrives(r2))
	if len(m.View().Rules) != 0 {
		t.Error("a rule that is held")
	}
	does(t, m, arrives(r1))
	if got := m.View().Rules; !slices.Equal(got, []api.Rule{{Kind: api.RuleUser, Entity: "@b*", Room: policy, Key: "k"}}) {
		t.Error(got)
	}
	does(t, m, arrives(w.rule(policy, "room", "s", "!x:*", "spam")))
	does(t, m, arrives(w.redaction(policy, mod, r2.ID)))
	if got := m.View().Rules; !slices.Equal(got, []api.Rule{{Kind: api.RuleRoom, Entity: "!x:*", Reason: "spam", Room: policy, Key: "s"}}) {
		t.Error(got)
	}
	foreign := w.rule(policy, "user", "x", "@c*", "")
	foreign.Sender = eve
	does(t, m, arrives(foreign))
	does(t, m, arrives(w.rule(other, "user", "x", "@d*", "")))
	if got := m.View().Rules; len(got) != 1 {
		t.Error("a rule that is rejected, or of another room", got)
	}
}

func TestP26_1Run(t *testing.T) {
	w := newWorld()
	var l []api.Input
	for _, e := range append(w.begin(), w.rule(policy, "user", "k", "@eve:*", "spam"), w.join(room, eve)) {
		l = append(l, arrives(e))
	}
	l = append(l, command(api.CmdProtect, room), command(9, ""), command(api.CmdSubscribe, policy), restart(), reply(1, true), tick(3))
	a, b := made(t), made(t)
	got := a.Run(l)
	if len(got) != len(l) {
		t.Fatal(len(got))
	}
	for i, in := range l {
		if !machine.SameOuts(got[i], b.Do(in)) {
			t.Errorf("Run and Do differ for %s", record.Line(in))
		}
	}
	if !machine.SameView(a.View(), b.View()) || len(a.Run(nil)) != 0 {
		t.Error("Run and Do lead to different views")
	}
}

func TestP26_2View(t *testing.T) {
	m, w := begun(t)
	l := []api.Event{w.rule(policy, "user", "k", "@eve:*", "spam"), w.rule(policy, "server", "s", "evil.*", ""), w.join(room, eve), w.message(room, eve), w.join(room, alice)}
	for _, e := range l {
		m.Do(arrives(e))
	}
	m.Do(arrives(w.message(other, alice)))
	m.Do(command(api.CmdAllow, "x"))
	m.Do(reply(1, true))
	v := m.View()
	w = newWorld()
	r, _ := rooms.New(room)
	p, _ := rooms.New(policy)
	for _, e := range append(w.begin(), l...) {
		r.Deliver(e)
		p.Deliver(e)
	}
	if v.Bot != bot || m.Bot() != bot || !slices.Equal(v.Protected, []string{room}) || !slices.Equal(v.Subscribed, []string{policy}) || !slices.Equal(v.Allowed, []string{"x"}) || len(v.Rules) != 2 || len(v.Rooms) != 3 {
		t.Fatal(v)
	}
	for i, id := range []string{policy, room, other} {
		x := v.Rooms[i]
		if x.ID != id || !target.Same(x.Target, target.Of(v.Rules, v.Allowed, bot, x.Resolved)) || !slices.Equal(x.Own, audit.Owned(v.Notes, id)) {
			t.Error(id, x)
		}
	}
	if !resolve.Same(v.Rooms[0].Resolved, p.Resolved()) || !resolve.Same(v.Rooms[1].Resolved, r.Resolved()) || !slices.Equal(v.Rooms[1].Heads, r.Heads()) || !slices.Equal(v.Rooms[0].Heads, p.Heads()) || len(v.Rooms[1].Target.Bans) != 1 || len(v.Rooms[1].Target.Redact) != 1 {
		t.Error("the rooms")
	}
	if fmt.Sprint(m.Queue()) != fmt.Sprint(v.Queue) || !slices.Equal(m.Notes(), v.Notes) || len(v.Queue.Jobs) == 0 {
		t.Error("Queue and Notes")
	}
}

func TestP26_2SharesNothing(t *testing.T) {
	m, w := begun(t)
	for _, e := range []api.Event{w.rule(policy, "user", "k", "@eve:*", "spam"), w.rule(policy, "server", "s", "evil.*", ""), w.join(room, eve), w.message(room, eve)} {
		m.Do(arrives(e))
	}
	m.Do(reply(1, true))
	m.Do(command(api.CmdAllow, "x"))
	for range 5 {
		m.Do(reply(2, false))
		m.Do(tick(20))
	}
	ruin := func(v api.View) {
		clear(v.Protected[:cap(v.Protected)])
		clear(v.Subscribed[:cap(v.Subscribed)])
		clear(v.Allowed[:cap(v.Allowed)])
		clear(v.Rules[:cap(v.Rules)])
		clear(v.Notes[:cap(v.Notes)])
		clear(v.Queue.Jobs[:cap(v.Queue.Jobs)])
		clear(v.Queue.Settled[:cap(v.Queue.Settled)])
		clear(v.Queue.Failed[:cap(v.Queue.Failed)])
		for _, r := range v.Rooms {
			clear(r.Heads)
			clear(r.Own)
			clear(r.Target.Bans)
			clear(r.Target.Deny)
			clear(r.Target.Redact)
			clear(r.Resolved.Order)
			clear(r.Resolved.Messages)
			clear(r.Resolved.State.Members)
			for _, e := range r.Resolved.State.Entries {
				clear(e.Body.Keys)
				clear(e.Body.Items)
			}
		}
	}
	if q := m.Queue(); len(q.Failed) == 0 || len(q.Settled) == 0 || len(q.Jobs) == 0 {
		t.Fatal("the queue must have something of everything", q)
	}
	keep := fmt.Sprint(m.View())
	ruin(m.View())
	ruin(api.View{Notes: m.Notes(), Queue: m.Queue()})
	if fmt.Sprint(m.View()) != keep {
		t.Error("a view shares memory with the machine")
	}
	outs := m.Do(tick(1))
	outs = append(outs, m.Run([]api.Input{reply(99, true)})[0]...)
	notes := m.Notes()
	for i := range outs {
		outs[i].Note.Code = 77
	}
	if !slices.Equal(m.Notes(), notes) {
		t.Error("what is reported shares memory with the machine")
	}
}

func TestP26_2CodeEmitsSame(t *testing.T) {
	code := func(e api.Errno) api.Out { return api.Out{Kind: api.OutCode, Code: e} }
	emit := api.Out{Kind: api.OutEmit, Txn: 1, Action: ban(eve, "")}
	note := of(api.NoteSent, 1, ban(eve, ""))
	for i, x := range []struct {
		l     []api.Out
		code  api.Errno
		emits []api.Out
	}{
		{nil, 0, nil}, {[]api.Out{code(5)}, 5, nil}, {[]api.Out{note, emit, code(3), code(4), emit}, 3, []api.Out{emit, emit}}, {[]api.Out{{Kind: api.OutNote, Code: 7}, {Kind: 9, Code: 8}, {Kind: 0}}, 0, nil}, {[]api.Out{code(0), code(5)}, 0, nil},
	} {
		if got := machine.Code(x.l); got != x.code {
			t.Errorf("%d: Code = %v", i, got)
		}
		if got := machine.Emits(x.l); !slices.Equal(got, x.emits) {
			t.Errorf("%d: Emits = %v", i, got)
		}
	}
	l := []api.Out{note, emit}
	machine.Emits(l)[0].Txn = 9
	if l[0] != note || l[1] != emit {
		t.Error("Emits shares memory")
	}
	outs := []api.Out{{}, {Kind: 1}, {Code: 1}, {Txn: 1}, {Action: ban(eve, "")}, {Note: api.Note{Kind: 1}}, {Note: api.Note{Text: "x"}}}
	for i, a := range outs {
		for j, b := range outs {
			if got := machine.SameOuts([]api.Out{a}, []api.Out{b}); got != (i == j) {
				t.Errorf("SameOuts of %d and %d is %v", i, j, got)
			}
		}
	}
	if machine.SameOuts(outs, outs[1:]) || !machine.SameOuts(nil, []api.Out{}) || !machine.SameOuts(outs, slices.Clone(outs)) {
		t.Error("SameOuts")
	}
	views := []api.View{{}, {Bot: "x"}, {Protected: []string{"x"}}, {Subscribed: []string{"x"}}, {Allowed: []string{"x"}}, {Rules: []api.Rule{{}}}, {Rooms: []api.RoomView{{}}}, {Rooms: []api.RoomView{{ID: "x"}}}, {Rooms: []api.RoomView{{Own: []string{"x"}}}}, {Rooms: []api.RoomView{{Heads: []string{"x"}}}},
		{Rooms: []api.RoomView{{Target: api.Target{Deny: []string{"x"}}}}}, {Rooms: []api.RoomView{{Resolved: api.Resolved{Order: []string{"x"}}}}}, {Rooms: []api.RoomView{{}, {}}}, {Queue: api.Queue{Next: 1}}, {Notes: []api.Note{{}}}, {Notes: []api.Note{{Code: 1}}}}
	for i, a := range views {
		for j, b := range views {
			if got := machine.SameView(a, b); got != (i == j) {
				t.Errorf("SameView of %d and %d is %v", i, j, got)
			}
		}
	}
	if !machine.SameView(api.View{Protected: []string{}, Rooms: []api.RoomView{}, Notes: []api.Note{}}, api.View{}) {
		t.Error("a nil slice and an empty one are the same")
	}
}
