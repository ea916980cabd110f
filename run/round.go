package run

import (
	"outlaw/api"
	"outlaw/home"
	"outlaw/machine"
	"outlaw/record"
	"outlaw/tower"
)

// A round is one of a tower and a home, as far as it has come.
type round struct {
	tower  *tower.Tower
	home   *home.Home
	unsent []api.Out // the actions that were reported and not sent yet
	told   int
	err    api.Errno
}

// each passes elements on until one is not taken, and returns what is left.
func each[T any](l []T, take func(x T) bool) []T {
	for i, x := range l {
		if !take(x) {
			return l[i:]
		}
	}
	return nil
}

// missing reports whether there is no tower or no home; what it tries does nothing where there is one.
func missing(t *tower.Tower, h *home.Home) bool {
	_, e := t.Do(api.Input{})
	return e == api.ErrNil || h.Send(0, api.Action{}) == api.ErrNil
}

// Round does a round, and returns how many actions were reported.
func Round(t *tower.Tower, h *home.Home) (told int, e api.Errno) {
	if missing(t, h) {
		return 0, api.ErrNil
	}
	r := &round{tower: t, home: h}
	r.take(api.Input{Kind: api.InTick, N: 1})
	for r.err == api.OK && r.pass() {
		// What one pass reports is sent in the next one.
	}
	return r.told, r.err
}

// take makes the tower take an input.
func (r *round) take(in api.Input) bool {
	outs, e := r.tower.Do(in)
	emitted := machine.Emits(outs)
	r.told += len(emitted)
	r.unsent = append(r.unsent, emitted...)
	r.err = e
	return e == api.OK
}

// pass does a pass, and reports whether there was anything to do.
func (r *round) pass() bool {
	sent := len(r.unsent)
	r.unsent = each(r.unsent, r.send)
	arrived := r.home.Replies()
	for _, echo := range r.home.Echoes() {
		arrived = append(arrived, record.Take(echo))
	}
	each(arrived, r.take)
	return sent+len(arrived) > 0
}

// send sends an action, unless the home has no room for its answer.
func (r *round) send(o api.Out) bool {
	return r.home.Send(o.Txn, o.Action) != api.ErrFull
}

// Settle does rounds until tower and home are quiet.
func Settle(t *tower.Tower, h *home.Home, most int) (rounds int, quiet bool, e api.Errno) {
	if missing(t, h) {
		return 0, false, api.ErrNil
	}
	for rounds < most && !quiet && e == api.OK {
		told := 0
		told, e = Round(t, h)
		rounds++
		quiet = e == api.OK && told == 0 && len(t.View().Queue.Jobs) == 0
	}
	return rounds, quiet, e
}

// Bound returns after how many rounds everything is settled.
func Bound() int {
	return api.MostBackoff + 4
}
