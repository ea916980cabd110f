package machine

import (
	"maps"
	"slices"

	"outlaw/api"
	"outlaw/queue"
	"outlaw/resolve"
	"outlaw/target"
)

// View returns everything that the machine has.
func (m *Machine) View() api.View {
	if !m.made() {
		return api.View{}
	}
	v := api.View{
		Bot:        m.bot,
		Protected:  slices.Sorted(maps.Keys(m.protected)),
		Subscribed: m.book.Rooms(),
		Allowed:    m.book.Allowed(),
		Rules:      m.book.Rules(),
		Queue:      m.Queue(),
		Notes:      m.Notes(),
	}
	for _, id := range slices.Sorted(maps.Keys(m.rooms)) {
		v.Rooms = append(v.Rooms, m.roomView(id))
	}
	return v
}

func (m *Machine) roomView(id string) api.RoomView {
	x := m.rooms[id].Resolved()
	return api.RoomView{ID: id, Resolved: x, Target: m.target(x), Own: m.own(id), Heads: m.rooms[id].Heads()}
}

// Notes returns the audit log.
func (m *Machine) Notes() []api.Note {
	if !m.made() {
		return nil
	}
	return slices.Clone(m.notes)
}

// Queue returns the queue.
func (m *Machine) Queue() api.Queue {
	if !m.made() {
		return api.Queue{}
	}
	q := m.queue
	q.Jobs = slices.Clone(q.Jobs)
	q.Failed = slices.Clone(q.Failed)
	q.Settled = slices.Clone(q.Settled)
	return q
}

// Bot returns who the bot is.
func (m *Machine) Bot() string {
	if !m.made() {
		return ""
	}
	return m.bot
}

// Code returns the code that is reported first.
func Code(l []api.Out) api.Errno {
	at := slices.IndexFunc(l, func(o api.Out) bool { return o.Kind == api.OutCode })
	if at < 0 {
		return api.OK
	}
	return l[at].Code
}

// Emits returns the actions that are sent.
func Emits(l []api.Out) []api.Out {
	return slices.DeleteFunc(slices.Clone(l), func(o api.Out) bool { return o.Kind != api.OutEmit })
}

// SameOuts reports whether two reports are equal in everything.
func SameOuts(a, b []api.Out) bool {
	return slices.Equal(a, b)
}

// SameView reports whether two views are equal in everything.
func SameView(a, b api.View) bool {
	return a.Bot == b.Bot && slices.Equal(a.Protected, b.Protected) && slices.Equal(a.Subscribed, b.Subscribed) &&
		slices.Equal(a.Allowed, b.Allowed) && slices.Equal(a.Rules, b.Rules) && slices.EqualFunc(a.Rooms, b.Rooms, sameRoom) &&
		queue.Same(a.Queue, b.Queue) && slices.Equal(a.Notes, b.Notes)
}

func sameRoom(a, b api.RoomView) bool {
	return a.ID == b.ID && resolve.Same(a.Resolved, b.Resolved) && target.Same(a.Target, b.Target) &&
		slices.Equal(a.Own, b.Own) && slices.Equal(a.Heads, b.Heads)
}
