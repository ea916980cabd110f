package verdict

import (
	"slices"

	"outlaw/api"
)

// A transaction is what is known of one that was queued and has not ended.
type transaction struct {
	action api.Action
	flying bool // it is under way
	doubt  bool
}

// A judge has heard some inputs, and is about to hear an element of what was reported for one more.
type judge struct {
	known map[int64]transaction
	last  int64 // the transaction that was queued last
	heard api.Heard
	at    int
}

// hear returns the reason why what was reported for an input is rejected, or 0.
func (j *judge) hear(h api.Heard) int {
	isCode := func(o api.Out) bool { return o.Kind == api.OutCode }
	if len(h.Outs) == 0 || !isCode(h.Outs[0]) || slices.ContainsFunc(h.Outs[1:], isCode) {
		return api.WhyCode
	}
	if code := h.Outs[0].Code; code != api.OK {
		refusal := api.Note{Kind: api.NoteRefused, Code: int(code)}
		if len(h.Outs) != 2 || h.Outs[1].Kind != api.OutNote || h.Outs[1].Note != refusal {
			return api.WhyRefuse
		}
		return 0
	}
	if h.Input.Kind == api.InRestart {
		j.land()
	}
	j.heard = h
	for j.at = 1; j.at < len(h.Outs); j.at++ {
		if why := j.element(); why != 0 {
			return why
		}
	}
	return 0
}

// land makes what is under way doubtful.
func (j *judge) land() {
	for txn, x := range j.known {
		j.known[txn] = transaction{action: x.action, doubt: x.doubt || x.flying}
	}
}

// element asks the rules about the element, and remembers what it says.
func (j *judge) element() int {
	o := j.heard.Outs[j.at]
	if o.Kind != api.OutNote && o.Kind != api.OutEmit {
		return api.WhyCode
	}
	if o.Kind == api.OutNote && (o.Note.Kind <= api.NoteRefused || o.Note.Kind > api.NoteFull) {
		return api.WhyRefuse
	}
	rules := []func() int{j.wrongTxn, j.wrongEmit, j.sentTwice, j.wrongReply, j.tooMany}
	for _, rule := range rules {
		if why := rule(); why != 0 {
			return why
		}
	}
	j.remember()
	return 0
}

// note returns the note of an element if it is one of a transaction, otherwise nothing.
func (j *judge) note(at int) api.Note {
	o := j.heard.Outs[at]
	if o.Kind != api.OutNote || o.Note.Kind < api.NoteQueued || o.Note.Kind > api.NoteGone {
		return api.Note{}
	}
	return o.Note
}

// emits reports whether an element is the sending of an action.
func (j *judge) emits(at int, txn int64, a api.Action) bool {
	if at >= len(j.heard.Outs) {
		return false
	}
	o := j.heard.Outs[at]
	return o.Kind == api.OutEmit && o.Txn == txn && o.Action == a
}

func (j *judge) wrongTxn() int {
	n, o := j.note(j.at), j.heard.Outs[j.at]
	if n.Kind == api.NoteQueued {
		return given(api.WhyTxn, n.Txn != j.last+1)
	}
	if o.Kind == api.OutEmit {
		n = api.Note{Kind: api.NoteSent, Txn: o.Txn, Action: o.Action}
	}
	x, is := j.known[n.Txn]
	return given(api.WhyTxn, n.Kind != 0 && (!is || x.action != n.Action))
}

func (j *judge) wrongEmit() int {
	n, o := j.note(j.at), j.heard.Outs[j.at]
	if n.Kind == api.NoteSent {
		return given(api.WhyEmit, !j.emits(j.at+1, n.Txn, n.Action))
	}
	before := j.note(j.at - 1)
	follows := before.Kind == api.NoteSent && j.emits(j.at, before.Txn, before.Action)
	return given(api.WhyEmit, o.Kind == api.OutEmit && !follows)
}

func (j *judge) sentTwice() int {
	n := j.note(j.at)
	return given(api.WhyTwice, n.Kind == api.NoteSent && j.known[n.Txn].flying)
}

func (j *judge) wrongReply() int {
	n, in := j.note(j.at), j.heard.Input
	open := j.known[n.Txn].flying || j.known[n.Txn].doubt
	switch n.Kind {
	case api.NoteDone, api.NoteAgain, api.NoteFailed:
		answers := in.Kind == api.InReply && in.N == n.Txn && in.OK == (n.Kind == api.NoteDone)
		return given(api.WhyReply, !answers || !open)
	case api.NoteGone:
		return given(api.WhyReply, open)
	}
	return 0
}

func (j *judge) tooMany() int {
	flying := 0
	for _, x := range j.known {
		if x.flying {
			flying++
		}
	}
	return given(api.WhyMany, j.note(j.at).Kind == api.NoteSent && flying >= api.MostFlying)
}

// given returns a reason if it applies.
func given(why int, applies bool) int {
	if applies {
		return why
	}
	return 0
}

// remember keeps what an element says of a transaction.
func (j *judge) remember() {
	n := j.note(j.at)
	switch n.Kind {
	case api.NoteQueued:
		j.last = n.Txn
		j.known[n.Txn] = transaction{action: n.Action}
	case api.NoteSent:
		j.known[n.Txn] = transaction{action: n.Action, flying: true}
	case api.NoteAgain:
		j.known[n.Txn] = transaction{action: n.Action}
	case api.NoteDone, api.NoteFailed, api.NoteGone:
		delete(j.known, n.Txn)
	}
}
