package machine_test

import (
	"math/rand"
	"slices"
	"strconv"
	"testing"

	"outlaw/api"
	"outlaw/audit"
	"outlaw/auth"
	"outlaw/machine"
	"outlaw/plan"
	"outlaw/power"
	"outlaw/queue"
	"outlaw/target"
)

// history are the events of several rooms, in the order in which they were made.
func history(r *rand.Rand) []api.Event {
	w := newWorld()
	l := append(w.begin(), w.create(other, alice), w.join(other, alice), w.join(other, bot))
	users := []string{eve, alice, "@eve2:evil.com", "@x:Evil.com", "@y:good.org"}
	for range 25 {
		where := []string{room, other}[r.Intn(2)]
		user := users[r.Intn(5)]
		switch r.Intn(10) {
		case 0, 1, 2:
			l = append(l, w.join(where, user))
		case 3:
			l = append(l, w.message(where, user))
		case 4, 5, 6:
			kind := []string{"user", "server"}[r.Intn(2)]
			entity := []string{"@eve*", "@*:evil.com", "*", "", "@y:*"}[r.Intn(5)]
			if kind == "server" {
				entity = []string{"evil.*", "EVIL.com", "*", "", "good.org"}[r.Intn(5)]
			}
			l = append(l, w.rule(policy, kind, []string{"k", "l"}[r.Intn(2)], entity, []string{"", "spam"}[r.Intn(2)]))
		case 7:
			levels := power.Default(map[string]string{room: bot, other: alice}[where])
			levels.Users = append(levels.Users, api.UserLevel{User: map[string]string{room: alice, other: bot}[where], N: []int64{0, 50, 60}[r.Intn(3)]})
			slices.SortFunc(levels.Users, func(a, b api.UserLevel) int { return slices.Compare([]byte(a.User), []byte(b.User)) })
			l = append(l, w.levels(where, map[string]string{room: bot, other: alice}[where], levels))
		case 8:
			l = append(l, w.member(where, []string{bot, alice}[r.Intn(2)], user, []int{api.MemberBan, api.MemberLeave}[r.Intn(2)]))
		case 9:
			if n := len(l); n > 0 {
				l = append(l, w.redaction(where, []string{bot, alice}[r.Intn(2)], l[r.Intn(n)].ID))
			}
		}
	}
	return l
}

func commands() []api.Input {
	return []api.Input{command(api.CmdProtect, room), command(api.CmdSubscribe, policy), command(api.CmdProtect, other), command(api.CmdAllow, "@y:good.org"), command(api.CmdAllow, "X.org"), command(api.CmdUnprotect, other), command(api.CmdDisallow, "@y:good.org"), command(api.CmdProtect, other)}
}

// inputs are those of a history in some disorder, with commands, replies, time and restarts between them.
func inputs(r *rand.Rand) []api.Input {
	l := commands()[:2+r.Intn(4)]
	for _, e := range history(r) {
		at := len(l)
		if r.Intn(6) == 0 {
			at = r.Intn(at + 1)
		}
		l = slices.Insert(l, at, arrives(e))
		for range r.Intn(3) {
			l = append(l, []api.Input{reply(r.Int63n(12), r.Intn(2) == 0), reply(1+r.Int63n(4), true), tick(r.Int63n(6)), restart(), command(1+r.Intn(8), []string{room, other, policy, eve, "evil.com"}[r.Intn(5)])}[r.Intn(5)])
		}
	}
	return l
}

func TestP26_3Walks(t *testing.T) {
	r := rand.New(rand.NewSource(34))
	emitted, bans := 0, 0
	for range 80 {
		m := made(t)
		for _, in := range inputs(r) {
			outs := m.Do(in)
			v := m.View()
			if audit.Life(v.Notes) != -1 || queue.Check(v.Queue) != api.OK {
				t.Fatal("the notes or the queue are not valid")
			}
			emitted += len(machine.Emits(outs))
			for _, o := range outs {
				if o.Kind == api.OutNote && o.Note.Kind == api.NoteQueued && o.Note.Action.Kind == api.ActBan {
					bans++
					a := o.Note.Action
					if _, is := target.First(v.Rules, a.Subject); !is || target.Spared(v.Allowed, bot, a.Subject) {
						t.Fatal("a ban without a rule, or of one who is spared", a)
					}
				}
				if o.Kind == api.OutEmit {
					checkEmit(t, v, o.Action)
				}
			}
		}
	}
	if emitted < 300 || bans < 100 {
		t.Error(emitted, bans)
	}
}

// checkEmit says that an action is one that the bot may do, in a protected room.
func checkEmit(t *testing.T, v api.View, a api.Action) {
	t.Helper()
	if !slices.Contains(v.Protected, a.Room) {
		t.Fatal("an action in a room that is not protected", a)
	}
	at := slices.IndexFunc(v.Rooms, func(x api.RoomView) bool { return x.ID == a.Room })
	x := v.Rooms[at].Resolved
	if !plan.Permitted(x, bot, a) {
		t.Fatal("an action that the bot may not do", a)
	}
	e, err := plan.Echo(a, bot, "$echo", 0, nil)
	of := ""
	for _, m := range x.Messages {
		if m.ID == a.Subject {
			of = m.Sender
		}
	}
	if _, why := auth.Step(x.State, e, of); err != api.OK || why != api.WhyNone {
		t.Fatal("the event of an action is rejected", a, err, why)
	}
}

// The same events in any order, however often, lead to the same rules and targets.
func TestP26_3AnyOrder(t *testing.T) {
	r := rand.New(rand.NewSource(35))
	for range 40 {
		l := history(r)
		m := append(slices.Clone(l), l[:r.Intn(len(l))]...)
		r.Shuffle(len(m), func(i, j int) { m[i], m[j] = m[j], m[i] })
		a, b := made(t), made(t)
		for _, in := range commands() {
			a.Do(in)
		}
		for _, e := range l {
			a.Do(arrives(e))
		}
		for i, e := range m {
			if i == len(m)/2 {
				b.Run(commands())
			}
			b.Do(arrives(e))
		}
		v, u := a.View(), b.View()
		if !slices.Equal(v.Rules, u.Rules) || len(v.Rooms) != len(u.Rooms) || !slices.Equal(v.Protected, u.Protected) || !slices.Equal(v.Allowed, u.Allowed) {
			t.Fatal("the order of events matters for the rules")
		}
		for i, x := range v.Rooms {
			if !target.Same(x.Target, u.Rooms[i].Target) || x.ID != u.Rooms[i].ID {
				t.Fatal("the order of events matters for the targets")
			}
		}
	}
}

// Results depend on the earlier inputs alone.
func TestP26_3Deterministic(t *testing.T) {
	l := inputs(rand.New(rand.NewSource(36)))
	a, b := made(t), made(t)
	for i, in := range l {
		if !machine.SameOuts(a.Do(in), b.Do(in)) || i%5 == 0 && !machine.SameView(a.View(), b.View()) {
			t.Fatal("two machines differ at the input " + strconv.Itoa(i))
		}
	}
}
