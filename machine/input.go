package machine

import (
	"outlaw/api"
	"outlaw/event"
	"outlaw/queue"
	"outlaw/record"
	"outlaw/room"
)

// An effect is what an input does, and the note that comes of it, if any.
type effect func(m *Machine, in api.Input) (api.Note, api.Errno)

// effects are what inputs do, by their kinds.
func effects() map[int]effect {
	return map[int]effect{
		api.InEvent:   (*Machine).takeEvent,
		api.InLong:    (*Machine).takeLong,
		api.InReply:   (*Machine).takeReply,
		api.InTick:    (*Machine).takeTick,
		api.InCommand: (*Machine).takeCommand,
		api.InRestart: (*Machine).takeRestart,
	}
}

// take does what an input does by itself; with an error nothing has changed.
func (m *Machine) take(in api.Input) (api.Note, api.Errno) {
	if e := record.Check(in); e != api.OK {
		return api.Note{}, e
	}
	return effects()[in.Kind](m, in)
}

func (m *Machine) takeEvent(in api.Input) (api.Note, api.Errno) {
	x, e := event.Read(in.Text)
	if e != api.OK {
		return api.Note{}, e
	}
	if e := m.know(x.Room); e != api.OK {
		return api.Note{}, e
	}
	_, e = m.rooms[x.Room].Deliver(x)
	return api.Note{}, e
}

func (m *Machine) takeLong(api.Input) (api.Note, api.Errno) {
	return api.Note{}, api.ErrLong
}

func (m *Machine) takeReply(in api.Input) (api.Note, api.Errno) {
	j, _ := queue.Find(m.queue, in.N)
	q, result, e := queue.Reply(m.queue, in.N, in.OK)
	if e != api.OK {
		return api.Note{}, e
	}
	m.queue = q
	n := api.Note{Kind: api.NoteAgain, Txn: j.Txn, Action: j.Action}
	switch result {
	case api.Done:
		n.Kind = api.NoteDone
	case api.GaveUp:
		n.Kind = api.NoteFailed
	}
	return n, api.OK
}

func (m *Machine) takeTick(in api.Input) (api.Note, api.Errno) {
	q, e := queue.Pass(m.queue, in.N)
	m.queue = q
	return api.Note{}, e
}

func (m *Machine) takeRestart(api.Input) (api.Note, api.Errno) {
	m.queue = queue.Land(m.queue)
	return api.Note{}, api.OK
}

// know makes a room known, if there is room for it.
func (m *Machine) know(id string) api.Errno {
	if m.rooms[id] != nil {
		return api.OK
	}
	r, e := room.New(id)
	if e != api.OK {
		return e
	}
	if len(m.rooms) >= api.MostRooms {
		return api.ErrFull
	}
	m.rooms[id] = r
	return api.OK
}

// commands are what commands do with their text, by their codes.
func commands() map[int]func(m *Machine, text string) api.Errno {
	return map[int]func(m *Machine, text string) api.Errno{
		api.CmdProtect:     (*Machine).protect,
		api.CmdUnprotect:   (*Machine).unprotect,
		api.CmdSubscribe:   (*Machine).subscribe,
		api.CmdUnsubscribe: func(m *Machine, text string) api.Errno { return m.book.Unsubscribe(text) },
		api.CmdAllow:       func(m *Machine, text string) api.Errno { return m.book.Allow(text) },
		api.CmdDisallow:    func(m *Machine, text string) api.Errno { return m.book.Disallow(text) },
		api.CmdResync:      (*Machine).resync,
	}
}

func (m *Machine) takeCommand(in api.Input) (api.Note, api.Errno) {
	do, is := commands()[in.Code]
	if !is {
		return api.Note{}, api.ErrArg
	}
	if e := do(m, in.Text); e != api.OK {
		return api.Note{}, e
	}
	return api.Note{Kind: api.NoteCommand, Code: in.Code, Text: in.Text}, api.OK
}

func (m *Machine) protect(text string) api.Errno {
	if m.protected[text] {
		return api.ErrTwice
	}
	if e := m.know(text); e != api.OK {
		return e
	}
	m.protected[text] = true
	return api.OK
}

func (m *Machine) unprotect(text string) api.Errno {
	if !m.protected[text] {
		return api.ErrNone
	}
	delete(m.protected, text)
	return api.OK
}

// subscribe first makes the room known, as a room that the book has is known already, and a full book means that no other can be.
func (m *Machine) subscribe(text string) api.Errno {
	if e := m.know(text); e != api.OK {
		return e
	}
	return m.book.Subscribe(text)
}

func (m *Machine) resync(string) api.Errno {
	m.queue = queue.Clear(m.queue)
	return api.OK
}
