package verdict_test

import (
	"math"
	"math/rand"
	"slices"
	"strconv"
	"strings"
	"testing"

	"outlaw/api"
	"outlaw/audit"
	"outlaw/content"
	"outlaw/event"
	"outlaw/machine"
	"outlaw/record"
	"outlaw/verdict"
)

const bot = "@bot:s"

func ban(txn int64) api.Action {
	return api.Action{Kind: api.ActBan, Room: "!r:s", Subject: "@" + strconv.FormatInt(txn, 10) + ":x"}
}

func code(e api.Errno) api.Out { return api.Out{Kind: api.OutCode, Code: e} }

func note(kind int, txn int64) api.Out {
	return api.Out{Kind: api.OutNote, Note: api.Note{Kind: kind, Txn: txn, Action: ban(txn)}}
}

func emit(txn int64) api.Out { return api.Out{Kind: api.OutEmit, Txn: txn, Action: ban(txn)} }

// heard is an input and what was reported: the letter t a tick, r a restart, y and n a reply of the number behind it;
// then, after a code that is OK, q queued, s sent with its action, d done, a again, f failed, g gone, c a command, l full, each of the number behind it.
func heard(s string) api.Heard {
	h := api.Heard{Outs: []api.Out{code(api.OK)}}
	for i, w := range strings.Fields(s) {
		txn, _ := strconv.ParseInt(w[1:], 10, 64)
		if i == 0 {
			h.Input = map[byte]api.Input{'t': {Kind: api.InTick}, 'r': {Kind: api.InRestart}, 'y': {Kind: api.InReply, N: txn, OK: true}, 'n': {Kind: api.InReply, N: txn}}[w[0]]
			continue
		}
		switch w[0] {
		case 's':
			h.Outs = append(h.Outs, note(api.NoteSent, txn), emit(txn))
		case 'c':
			h.Outs = append(h.Outs, api.Out{Kind: api.OutNote, Note: api.Note{Kind: api.NoteCommand, Code: 1, Text: "x"}})
		case 'l':
			h.Outs = append(h.Outs, api.Out{Kind: api.OutNote, Note: api.Note{Kind: api.NoteFull}})
		default:
			h.Outs = append(h.Outs, note(api.NoteQueued+strings.Index("q-dafg", w[:1]), txn))
		}
	}
	return h
}

// all are several inputs, separated by a semicolon.
func all(s string) []api.Heard {
	var l []api.Heard
	for _, x := range strings.Split(s, ";") {
		l = append(l, heard(x))
	}
	return l
}

func no(why, at int) api.Judged { return api.Judged{Why: why, At: at} }

func ok() api.Judged { return api.Judged{OK: true, At: -1} }

func TestP30_1Examples(t *testing.T) {
	restart := api.Input{Kind: api.InRestart}
	if got := verdict.Judge([]api.Heard{{Input: restart}}); got != no(api.WhyCode, 0) || verdict.Line(got) != "code 0" {
		t.Error(got)
	}
	if got := verdict.Judge([]api.Heard{{Input: restart, Outs: []api.Out{code(0)}}}); got != ok() || verdict.Line(got) != "ok" {
		t.Error(got)
	}
	if got := verdict.Judge(nil); got != ok() {
		t.Error(got)
	}
}

func TestP30_1Lives(t *testing.T) {
	for s, want := range map[string]api.Judged{
		"t q1 s1; y1 d1; t q2 g2; t q3 s3; n3 a3; t s3; n3 f3": ok(), "t q1 q2 s1 s2; y2 d2; y1 d1": ok(), "t c q1 l s1": ok(), "t q1; t q2; t s2; t s1": ok(), "t q1 s1; r s1; y1 d1": ok(), "t q1 s1; r; r; y1 d1": ok(), "t q1 s1; r; n1 a1; t g1": ok(),
		"t q1 s1; n1 a1 s1; y1 d1": ok(), "t q1 s1; n1 a1 g1 q2 s2; r s2; y2 d2": ok(), "t q1 q2 q3 q4 q5 s1 s2 s3 s4; y2 d2 s5": ok(), "t q1 q2 q3 q4 q5 s1 s2 s3 s4; r s5 s4 s3 s2": ok(), "t q1 q2 q3 q4 q5 s1 s2 s3 s4; n1 a1 s5": ok(),
		"t q2": no(api.WhyTxn, 0), "t q0": no(api.WhyTxn, 0), "t q1 q1": no(api.WhyTxn, 0), "t q1; t q3": no(api.WhyTxn, 1), "t q1; t q1": no(api.WhyTxn, 1), "t q-1": no(api.WhyTxn, 0), "t q1 g1 q1": no(api.WhyTxn, 0), "t q1 g1 q3": no(api.WhyTxn, 0),
		"t s1": no(api.WhyTxn, 0), "y1 d1": no(api.WhyTxn, 0), "n1 a1": no(api.WhyTxn, 0), "n1 f1": no(api.WhyTxn, 0), "t g1": no(api.WhyTxn, 0), "t q1 s2": no(api.WhyTxn, 0), "t q1 s1; y1 d1; y1 d1": no(api.WhyTxn, 2), "t q1 s1; y1 d1 s1": no(api.WhyTxn, 1),
		"t q1 s1; n1 f1; t s1": no(api.WhyTxn, 2), "t q1 g1 s1": no(api.WhyTxn, 0), "t q1 g1; t g1": no(api.WhyTxn, 1), "t q1 s1; n1 f1; n1 a1": no(api.WhyTxn, 2),
		"t q1 s1 s1": no(api.WhyTwice, 0), "t q1 s1; t s1": no(api.WhyTwice, 1), "t q1 s1; r s1 s1": no(api.WhyTwice, 1), "t q1 s1; r s1; t s1": no(api.WhyTwice, 2), "t q1 s1; n1 a1 s1 s1": no(api.WhyTwice, 1),
		"t q1 s1; t d1": no(api.WhyReply, 1), "t q1 s1; y2 d1": no(api.WhyReply, 1), "t q1 s1; n1 d1": no(api.WhyReply, 1), "t q1 s1; y1 a1": no(api.WhyReply, 1), "t q1 s1; y1 f1": no(api.WhyReply, 1), "t q1; y1 d1": no(api.WhyReply, 1), "t q1; n1 a1": no(api.WhyReply, 1),
		"t q1; n1 f1": no(api.WhyReply, 1), "t q1 s1; n1 a1; n1 a1": no(api.WhyReply, 2), "t q1 s1; n1 a1; y1 d1": no(api.WhyReply, 2), "t q1 s1; t g1": no(api.WhyReply, 1), "t q1 s1 g1": no(api.WhyReply, 0), "t q1 s1; r g1": no(api.WhyReply, 1), "t q1 s1; r; t g1": no(api.WhyReply, 2),
		"t q1 s1; n2 a1": no(api.WhyReply, 1), "t q1 s1; n2 f1": no(api.WhyReply, 1), "t q1 s1; r d1": no(api.WhyReply, 1), "t q1 q2 s1 s2; y1 d1 d2": no(api.WhyReply, 1), "t q1 s1; r; n1 a1; r; y1 d1": no(api.WhyReply, 4),
		"t q1 q2 q3 q4 q5 s1 s2 s3 s4 s5": no(api.WhyMany, 0), "t q1 q2 q3 q4 q5 s1 s2 s3 s4; t s5": no(api.WhyMany, 1), "t q1 q2 q3 q4 q5 s1 s2 s3 s4; r s1 s2 s3 s4 s5": no(api.WhyMany, 1), "t q1 q2 q3 q4 q5 s1 s2 s3 s4; y1 s5": no(api.WhyMany, 1), "t q1 q2 q3 q4 q5 s1 s2 s3 s4 s1": no(api.WhyTwice, 0),
	} {
		l := all(s)
		if got := verdict.Judge(l); got != want {
			t.Errorf("%s: %v, want %v", s, got, want)
		}
	}
}

func TestP30_1Codes(t *testing.T) {
	in := api.Input{Kind: api.InTick}
	refused := func(e int) api.Out { return api.Out{Kind: api.OutNote, Note: api.Note{Kind: api.NoteRefused, Code: e}} }
	with := func(do func(o *api.Out)) api.Out {
		o := refused(5)
		do(&o)
		return o
	}
	begun := heard("t q1")
	for i, x := range []struct {
		outs []api.Out
		want api.Judged
	}{
		{nil, no(api.WhyCode, 1)}, {[]api.Out{note(api.NoteSent, 1)}, no(api.WhyCode, 1)}, {[]api.Out{{}}, no(api.WhyCode, 1)}, {[]api.Out{code(0), code(0)}, no(api.WhyCode, 1)}, {[]api.Out{code(5), refused(5), code(5)}, no(api.WhyCode, 1)}, {[]api.Out{refused(5), code(5)}, no(api.WhyCode, 1)},
		{[]api.Out{code(5), code(0)}, no(api.WhyCode, 1)}, {[]api.Out{code(0), note(api.NoteQueued, 9), code(0)}, no(api.WhyCode, 1)},
		{[]api.Out{code(5), refused(5)}, ok()}, {[]api.Out{code(-5), refused(-5)}, ok()}, {[]api.Out{code(5)}, no(api.WhyRefuse, 1)}, {[]api.Out{code(5), refused(4)}, no(api.WhyRefuse, 1)}, {[]api.Out{code(5), refused(5), refused(5)}, no(api.WhyRefuse, 1)}, {[]api.Out{code(5), note(api.NoteQueued, 2)}, no(api.WhyRefuse, 1)},
		{[]api.Out{code(5), refused(5), note(api.NoteQueued, 2)}, no(api.WhyRefuse, 1)}, {[]api.Out{code(5), {Kind: 9}}, no(api.WhyRefuse, 1)}, {[]api.Out{code(5), {Kind: api.OutEmit, Note: api.Note{Kind: api.NoteRefused, Code: 5}}}, no(api.WhyRefuse, 1)}, {[]api.Out{code(5), refused(5), {Kind: 9}}, no(api.WhyRefuse, 1)},
		{[]api.Out{code(5), with(func(o *api.Out) { o.Note.Txn = 1 })}, no(api.WhyRefuse, 1)}, {[]api.Out{code(5), with(func(o *api.Out) { o.Note.Text = "x" })}, no(api.WhyRefuse, 1)}, {[]api.Out{code(5), with(func(o *api.Out) { o.Note.Action.Deny = "x" })}, no(api.WhyRefuse, 1)}, {[]api.Out{code(5), with(func(o *api.Out) { o.Note.Kind = api.NoteFull })}, no(api.WhyRefuse, 1)},
		{[]api.Out{{Kind: api.OutCode, Code: 5, Txn: 7, Action: ban(1), Note: api.Note{Kind: 3}}, with(func(o *api.Out) { o.Txn, o.Action, o.Code = 7, ban(1), 9 })}, ok()},
		{[]api.Out{code(0), {}}, no(api.WhyCode, 1)}, {[]api.Out{code(0), {Kind: 4}}, no(api.WhyCode, 1)}, {[]api.Out{code(0), {Kind: -1}}, no(api.WhyCode, 1)}, {[]api.Out{code(0), {Kind: math.MaxInt}}, no(api.WhyCode, 1)}, {[]api.Out{code(0), refused(0)}, no(api.WhyRefuse, 1)}, {[]api.Out{code(0), refused(5)}, no(api.WhyRefuse, 1)},
		{[]api.Out{code(0), note(0, 1)}, no(api.WhyRefuse, 1)}, {[]api.Out{code(0), note(10, 1)}, no(api.WhyRefuse, 1)}, {[]api.Out{code(0), note(-1, 1)}, no(api.WhyRefuse, 1)}, {[]api.Out{code(0), note(math.MaxInt, 1)}, no(api.WhyRefuse, 1)}, {[]api.Out{code(0), note(math.MinInt, 1)}, no(api.WhyRefuse, 1)},
		{[]api.Out{code(0), note(api.NoteCommand, 99)}, ok()}, {[]api.Out{code(0), note(api.NoteFull, 99)}, ok()}, {[]api.Out{code(0), note(api.NoteQueued, 9), {Kind: 4}}, no(api.WhyTxn, 1)}, {[]api.Out{code(0), {Kind: 4}, note(api.NoteQueued, 9)}, no(api.WhyCode, 1)},
	} {
		if got := verdict.Judge([]api.Heard{begun, {Input: in, Outs: x.outs}}); got != x.want {
			t.Errorf("%d: %v, want %v", i, got, x.want)
		}
	}
}

func TestP30_1Emits(t *testing.T) {
	otherAction := func(o api.Out) api.Out {
		o.Action.Reason, o.Note.Action.Reason = "other", "other"
		return o
	}
	sent, full := note(api.NoteSent, 1), note(api.NoteFull, 0)
	for i, x := range []struct {
		outs []api.Out
		want api.Judged
	}{
		{[]api.Out{sent, emit(1)}, ok()}, {[]api.Out{sent}, no(api.WhyEmit, 1)}, {[]api.Out{emit(1)}, no(api.WhyEmit, 1)}, {[]api.Out{sent, full, emit(1)}, no(api.WhyEmit, 1)}, {[]api.Out{sent, emit(1), emit(1)}, no(api.WhyEmit, 1)}, {[]api.Out{sent, emit(2)}, no(api.WhyEmit, 1)}, {[]api.Out{sent, note(api.NoteSent, 2), emit(2), emit(1)}, no(api.WhyEmit, 1)},
		{[]api.Out{full, emit(1)}, no(api.WhyEmit, 1)}, {[]api.Out{note(api.NoteGone, 2), emit(1)}, no(api.WhyEmit, 1)}, {[]api.Out{note(api.NoteGone, 1), emit(1)}, no(api.WhyTxn, 1)}, {[]api.Out{emit(9)}, no(api.WhyTxn, 1)}, {[]api.Out{emit(0)}, no(api.WhyTxn, 1)}, {[]api.Out{sent, otherAction(emit(1))}, no(api.WhyEmit, 1)},
		{[]api.Out{otherAction(sent), emit(1)}, no(api.WhyTxn, 1)}, {[]api.Out{otherAction(sent), otherAction(emit(1))}, no(api.WhyTxn, 1)}, {[]api.Out{otherAction(emit(1))}, no(api.WhyTxn, 1)}, {[]api.Out{sent, emit(1), emit(9)}, no(api.WhyTxn, 1)}, {[]api.Out{otherAction(note(api.NoteGone, 1))}, no(api.WhyTxn, 1)},
		{[]api.Out{sent, emit(1), note(api.NoteSent, 1)}, no(api.WhyEmit, 1)}, {[]api.Out{{Kind: api.OutNote, Note: sent.Note, Txn: 9, Action: ban(9), Code: 4}, {Kind: api.OutEmit, Txn: 1, Action: ban(1), Code: 4, Note: api.Note{Kind: 77}}}, ok()}, {[]api.Out{note(api.NoteQueued, 3), emit(3)}, no(api.WhyEmit, 1)},
		{[]api.Out{sent, {Kind: api.OutNote, Note: full.Note, Txn: 1, Action: ban(1)}}, no(api.WhyEmit, 1)}, {[]api.Out{sent, {Kind: api.OutEmit, Txn: 2, Action: ban(1)}}, no(api.WhyEmit, 1)}, {[]api.Out{sent, {Kind: api.OutEmit, Txn: 1, Action: ban(1), Note: api.Note{Kind: api.NoteQueued, Txn: 9}}}, ok()},
		{[]api.Out{note(api.NoteCommand, 1), emit(1)}, no(api.WhyEmit, 1)}, {[]api.Out{sent, {Kind: api.OutNote, Note: sent.Note, Txn: 1, Action: ban(1)}}, no(api.WhyEmit, 1)},
	} {
		if got := verdict.Judge([]api.Heard{heard("t q1 q2"), {Outs: append([]api.Out{code(0)}, x.outs...)}}); got != x.want {
			t.Errorf("%d: %v, want %v", i, got, x.want)
		}
	}
	before := []api.Heard{{Outs: []api.Out{code(0), note(api.NoteQueued, 1), sent}}, {Outs: []api.Out{code(0), emit(1)}}}
	if got := verdict.Judge(before); got != no(api.WhyEmit, 0) {
		t.Error("an action follows in the same report", got)
	}
}

// A transaction becomes doubtful only by a restart that is not rejected; the first input counts.
func TestP30_1Restarts(t *testing.T) {
	refused := api.Heard{Input: api.Input{Kind: api.InRestart}, Outs: []api.Out{code(3), {Kind: api.OutNote, Note: api.Note{Kind: api.NoteRefused, Code: 3}}}}
	for i, x := range []struct {
		l    []api.Heard
		want api.Judged
	}{
		{[]api.Heard{heard("t q1 s1"), refused, heard("t s1")}, no(api.WhyTwice, 2)}, {[]api.Heard{heard("t q1 s1"), refused, heard("y1 d1")}, ok()}, {[]api.Heard{heard("t q1 s1"), heard("r"), refused, heard("t s1")}, ok()},
		{[]api.Heard{heard("t q1"), heard("r"), heard("y1 d1")}, no(api.WhyReply, 2)}, {[]api.Heard{heard("t"), {}, heard("t q9")}, no(api.WhyCode, 1)}, {[]api.Heard{heard("t q9"), {}}, no(api.WhyTxn, 0)}, {[]api.Heard{heard("t q1 s1"), heard("r"), heard("t s1"), heard("t g1")}, no(api.WhyReply, 3)},
		{[]api.Heard{heard("t q1 s1"), heard("r"), heard("n1 a1 g1")}, ok()}, {[]api.Heard{heard("t q1 s1"), {Input: api.Input{Kind: api.InTick, N: 1}, Outs: heard("t a1").Outs}}, no(api.WhyReply, 1)}, {[]api.Heard{heard("t q1 s1"), {Input: api.Input{Kind: api.InTick, N: 1, OK: true}, Outs: heard("t d1").Outs}}, no(api.WhyReply, 1)},
	} {
		if got := verdict.Judge(x.l); got != x.want {
			t.Errorf("%d: %v, want %v", i, got, x.want)
		}
	}
}

func TestP30_1HearNotesLine(t *testing.T) {
	l := []api.Input{record.Command(api.CmdProtect, "!r:s"), record.Command(9, ""), {Kind: api.InReply, N: 5}, {}, {Kind: api.InRestart}}
	m, _ := machine.New(bot)
	h := verdict.Hear(bot, l)
	if len(h) != len(l) {
		t.Fatal(len(h))
	}
	for i, in := range l {
		if h[i].Input != in || !machine.SameOuts(h[i].Outs, m.Do(in)) {
			t.Errorf("%d: %v", i, h[i])
		}
	}
	if !slices.Equal(verdict.Notes(h), m.Notes()) || len(m.Notes()) != 4 {
		t.Error(verdict.Notes(h))
	}
	if len(verdict.Hear("bot", l)) != 0 || len(verdict.Hear("", l)) != 0 || len(verdict.Hear(bot, nil)) != 0 || verdict.Of("bot", l) != ok() || verdict.Of(bot, l) != ok() {
		t.Error("a bot that is no user, or no inputs")
	}
	odd := []api.Heard{{Outs: []api.Out{note(3, 1), code(0), {Kind: api.OutEmit, Note: api.Note{Kind: 4}}, {Kind: 9, Note: api.Note{Kind: 5}}}}, {}, {Outs: []api.Out{note(77, 2)}}}
	if got := verdict.Notes(odd); !slices.Equal(got, []api.Note{note(3, 1).Note, note(77, 2).Note}) || len(verdict.Notes(nil)) != 0 {
		t.Error(got)
	}
	for j, want := range map[api.Judged]string{
		ok(): "ok", {OK: true, Why: 3, At: 5}: "ok", no(1, 0): "code 0", no(2, 12): "refuse 12", no(3, -1): "txn -1", no(4, math.MaxInt): "emit 9223372036854775807", no(5, 1): "twice 1", no(6, 2): "reply 2", no(7, 3): "many 3", no(8, 4): "why 4", no(0, 5): "why 5", no(-1, 6): "why 6", no(math.MinInt, math.MinInt): "why -9223372036854775808", no(math.MaxInt, 0): "why 0",
	} {
		if got := verdict.Line(j); got != want {
			t.Errorf("Line(%v) = %q", j, got)
		}
	}
}

// inputs are some that make a machine queue, send, and be answered.
func inputs(r *rand.Rand) []api.Input {
	const room, policy = "!r:s", "!p:s"
	last := map[string]string{}
	n := 0
	state := func(where, sender, typ, key string, body api.Json) api.Input {
		n++
		e := api.Event{ID: "$" + strconv.Itoa(n), Room: where, Sender: sender, Type: typ, State: true, Key: key, TS: int64(n), Body: body}
		if last[where] != "" {
			e.Prev = []string{last[where]}
		}
		last[where] = e.ID
		s, _ := event.Bytes(e)
		return record.Take(s)
	}
	create, _ := content.CreateBody(bot)
	join, _ := content.MemberBody(api.MemberJoin)
	l := []api.Input{state(room, bot, api.TypeCreate, "", create), state(room, bot, api.TypeMember, bot, join), state(policy, bot, api.TypeCreate, "", create), state(policy, bot, api.TypeMember, bot, join), record.Command(api.CmdProtect, room), record.Command(api.CmdSubscribe, policy)}
	for range 60 {
		user := "@u" + strconv.Itoa(r.Intn(9)) + ":x"
		rule, _ := content.RuleBody(api.RuleBody{Entity: []string{"@u*", "@u1*", "@u2*"}[r.Intn(3)], Recommendation: []string{"m.ban", "none"}[r.Intn(2)]})
		l = append(l, []api.Input{
			state(room, user, api.TypeMember, user, join), state(policy, bot, "m.policy.rule.user", "k", rule), {Kind: api.InReply, N: 1 + r.Int63n(8), OK: r.Intn(2) == 0}, {Kind: api.InReply, N: 1 + r.Int63n(20), OK: r.Intn(2) == 0},
			{Kind: api.InTick, N: r.Int63n(9)}, {Kind: api.InRestart}, record.Command(1+r.Intn(9), []string{room, policy, user}[r.Intn(3)]), {Kind: r.Intn(8), N: -1},
		}[r.Intn(8)])
	}
	return l
}

func TestP30_2(t *testing.T) {
	r := rand.New(rand.NewSource(41))
	notes := 0
	for range 100 {
		l := inputs(r)
		h := verdict.Hear(bot, l)
		if got := verdict.Judge(h); got != ok() || verdict.Of(bot, l) != ok() {
			t.Fatal(verdict.Line(got))
		}
		valid := slices.DeleteFunc(verdict.Notes(h), func(n api.Note) bool { return n.Kind == api.NoteRefused })
		if audit.Life(valid) != -1 {
			t.Fatal("the notes are not valid")
		}
		notes += len(valid)
		for i := range h {
			if verdict.Judge(h[:i]) != ok() {
				t.Fatal("a prefix is rejected")
			}
		}
		// Something that is left out, or told twice, is found, unless it stands alone.
		i := r.Intn(len(h))
		if n := len(h[i].Outs); n > 1 {
			at := 1 + r.Intn(n-1)
			o := h[i].Outs[at]
			stands := o.Kind == api.OutNote && (o.Note.Kind == api.NoteCommand || o.Note.Kind == api.NoteFull)
			broken := slices.Clone(h)
			broken[i].Outs = slices.Insert(slices.Clone(h[i].Outs), at, o)
			if got := verdict.Judge(broken); got.OK != stands || !got.OK && got.At != i {
				t.Fatal("told twice: ", o, verdict.Line(got))
			}
		}
	}
	if notes < 300 {
		t.Error(notes)
	}
}
