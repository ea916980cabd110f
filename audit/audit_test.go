package audit_test

import (
	"math"
	"math/rand"
	"slices"
	"strings"
	"testing"

	"outlaw/api"
	"outlaw/audit"
)

func ban(user string) api.Action {
	return api.Action{Kind: api.ActBan, Room: "!r:s", Subject: user, Reason: "why"}
}

func note(kind int, txn int64) api.Note {
	return api.Note{Kind: kind, Txn: txn, Action: ban("@" + string(rune('a'+txn)) + ":s")}
}

// notes makes notes of letters: q queued, s sent, d done, a again, f failed, g gone, of the transaction behind it; r, c and l stand alone.
func notes(s string) []api.Note {
	var l []api.Note
	for _, w := range strings.Fields(s) {
		switch w {
		case "r":
			l = append(l, api.Note{Kind: api.NoteRefused, Code: 5})
		case "c":
			l = append(l, api.Note{Kind: api.NoteCommand, Code: 7, Text: "x"})
		case "l":
			l = append(l, api.Note{Kind: api.NoteFull})
		default:
			l = append(l, note(api.NoteQueued+strings.Index("qsdafg", w[:1]), int64(w[1]-'0')))
		}
	}
	return l
}

func TestP23_1LifeOfTransactions(t *testing.T) {
	for s, want := range map[string]int{
		"": -1, "q1 s1 s1 d1 q2": -1, "q1 d1": 1, "q1": -1, "q1 s1 d1": -1, "q1 s1 f1": -1, "q1 g1": -1, "q1 s1 a1 g1": -1, "q1 s1 a1 s1 d1": -1, "q1 s1 a1 s1 a1 s1 f1 q2 g2 q3 s3": -1, "q1 q2 s2 s1 d2 d1": -1,
		"r c l q1 r s1 c d1 l": -1, "q2": 0, "q0": 0, "q1 q1": 1, "q1 q3": 1, "q1 g1 q1": 2, "q1 q2 q2": 2, "s1": 0, "d1": 0, "a1": 0, "f1": 0, "g1": 0, "q1 s2": 1, "q1 f1": 1, "q1 a1": 1, "q1 s1 g1": 2, "q1 s1 a1 d1": 3, "q1 s1 a1 f1": 3, "q1 s1 a1 a1": 3,
		"q1 s1 d1 s1": 3, "q1 s1 d1 d1": 3, "q1 s1 f1 s1": 3, "q1 g1 s1": 2, "q1 g1 g1": 2, "q1 s1 d1 g1": 3, "q1 s1 s1 a1 s1 g1": 5, "q1 s1 a1 g1 s1": 4, "q1 s1 d1 q2 s2 f2 q3 g3 q4 s4 a4 g4 q5": -1, "q1 q2 s1 d2": 3, "q1 s1 a1 s1 s1 d1 q2": -1,
	} {
		if got := audit.Life(notes(s)); got != want {
			t.Errorf("Life of %s: %d, want %d", s, got, want)
		}
	}
}

func TestP23_1LifeOfFields(t *testing.T) {
	with := func(kind int, do func(n *api.Note)) api.Note {
		n := note(kind, 1)
		if kind == api.NoteRefused || kind == api.NoteCommand || kind == api.NoteFull {
			n = api.Note{Kind: kind}
		}
		do(&n)
		return n
	}
	type change struct {
		do      func(n *api.Note)
		command bool // whether a command, a refusal, or a transaction may have it
		refusal bool
		txn     bool
	}
	for i, x := range []change{
		{func(n *api.Note) {}, true, true, true}, {func(n *api.Note) { n.Code = 9 }, true, true, false}, {func(n *api.Note) { n.Code = -9 }, true, true, false}, {func(n *api.Note) { n.Text = "x" }, true, false, false}, {func(n *api.Note) { n.Txn = 7 }, false, false, false},
		{func(n *api.Note) { n.Txn = -1 }, false, false, false}, {func(n *api.Note) { n.Action.Reason = "x" }, false, false, false}, {func(n *api.Note) { n.Action.Kind = 2 }, false, false, false}, {func(n *api.Note) { n.Action.Room = "x" }, false, false, false},
		{func(n *api.Note) { n.Action.Subject = "x" }, false, false, false}, {func(n *api.Note) { n.Action.Deny = "x" }, false, false, false},
	} {
		for kind, want := range map[int]bool{api.NoteRefused: x.refusal, api.NoteCommand: x.command, api.NoteFull: i == 0} {
			if got := audit.Life([]api.Note{with(kind, x.do)}) < 0; got != want {
				t.Errorf("change %d of a note of kind %d is allowed: %v", i, kind, got)
			}
		}
		begun := notes("q1 s1")
		for _, kind := range []int{api.NoteSent, api.NoteDone, api.NoteAgain, api.NoteFailed} {
			if got := audit.Life(append(slices.Clone(begun), with(kind, x.do))) < 0; got != x.txn {
				t.Errorf("change %d of a note of kind %d is allowed: %v", i, kind, got)
			}
		}
		if got := audit.Life(append(notes("q1"), with(api.NoteGone, x.do))) < 0; got != x.txn {
			t.Errorf("change %d of what is gone is allowed: %v", i, got)
		}
	}
	for kind := -2; kind < 14; kind++ {
		n := note(api.NoteQueued, 1)
		n.Action.Kind = kind
		if got := audit.Life([]api.Note{n}) < 0; got != (kind >= 1 && kind <= 4) {
			t.Errorf("an action of kind %d is allowed: %v", kind, got)
		}
		if got := audit.Life([]api.Note{{Kind: kind}}) < 0; got != (kind == api.NoteRefused || kind == api.NoteCommand || kind == api.NoteFull) {
			t.Errorf("an empty note of kind %d is allowed: %v", kind, got)
		}
		if got := audit.Life(append(notes("q1 s1"), note(kind, 1))) < 0; got != (kind >= api.NoteSent && kind <= api.NoteFailed) {
			t.Errorf("a note of kind %d is allowed: %v", kind, got)
		}
	}
	coded, worded := note(api.NoteQueued, 1), note(api.NoteQueued, 1)
	coded.Code, worded.Text = 1, "x"
	if audit.Life([]api.Note{coded}) != 0 || audit.Life([]api.Note{worded}) != 0 {
		t.Error("fields that are not used")
	}
}

func TestP23_1Owned(t *testing.T) {
	n := func(kind, act int, room, user string) api.Note {
		return api.Note{Kind: kind, Action: api.Action{Kind: act, Room: room, Subject: user}}
	}
	done := api.NoteDone
	for i, x := range []struct {
		l    []api.Note
		want []string
	}{
		{nil, nil}, {[]api.Note{n(done, 1, "!r", "a")}, []string{"a"}}, {[]api.Note{n(done, 1, "!r", "b"), n(done, 1, "!r", "a"), n(done, 1, "!r", "b")}, []string{"a", "b"}}, {[]api.Note{n(done, 1, "!r", "a"), n(done, 2, "!r", "a")}, nil}, {[]api.Note{n(done, 2, "!r", "a"), n(done, 1, "!r", "a")}, []string{"a"}},
		{[]api.Note{n(done, 1, "!q", "a")}, nil}, {[]api.Note{n(done, 1, "!r", "a"), n(done, 2, "!q", "a")}, []string{"a"}}, {[]api.Note{n(done, 1, "!r", "a"), n(done, 2, "!r", "b")}, []string{"a"}}, {[]api.Note{n(done, 1, "!r", "a"), n(done, 3, "!r", "a"), n(done, 4, "!r", "a")}, []string{"a"}},
		{[]api.Note{n(done, 3, "!r", "a"), n(done, 4, "!r", "b"), n(done, 0, "!r", "c")}, nil}, {[]api.Note{n(api.NoteQueued, 1, "!r", "a"), n(api.NoteSent, 1, "!r", "b"), n(api.NoteFailed, 1, "!r", "c"), n(api.NoteAgain, 1, "!r", "d"), n(api.NoteGone, 1, "!r", "e")}, nil},
		{[]api.Note{n(done, 1, "!r", "a"), n(api.NoteFailed, 2, "!r", "a"), n(api.NoteGone, 2, "!r", "a")}, []string{"a"}}, {[]api.Note{n(done, 2, "!r", "a")}, nil}, {[]api.Note{n(done, 1, "!r", "a"), n(done, 2, "!r", "a"), n(done, 1, "!r", "a")}, []string{"a"}},
	} {
		if got := audit.Owned(x.l, "!r"); !slices.Equal(got, x.want) {
			t.Errorf("%d: Owned = %v", i, got)
		}
		for _, user := range []string{"a", "b", "c", "d", "e", ""} {
			if got := audit.Own(x.l, "!r", user); got != slices.Contains(x.want, user) {
				t.Errorf("%d: Own(%s) = %v", i, user, got)
			}
		}
	}
}

func TestP23_1OfAndOpen(t *testing.T) {
	l := notes("q1 r s1 q2 s1 c d1 q3 g3 l")
	for txn, want := range map[int64]string{1: "q1 s1 s1 d1", 2: "q2", 3: "q3 g3", 4: "", 0: "r c l", -1: ""} {
		if got := audit.Of(l, txn); !slices.Equal(got, notes(want)) {
			t.Errorf("Of(%d) = %v", txn, got)
		}
	}
	got := audit.Of(l, 1)
	got[0].Txn = 99
	clear(got[:cap(got)])
	if !slices.Equal(l, notes("q1 r s1 q2 s1 c d1 q3 g3 l")) {
		t.Error("Of shares memory with its argument")
	}
	for s, want := range map[string][]int64{
		"": nil, "q1 s1 s1 d1 q2": {2}, "q1 d1": nil, "q3 q1 q2": {1, 2, 3}, "q1 q1 q1": {1}, "q1 s1 a1": {1}, "q1 f1 q2 g2 q3 d3": nil, "d1 q1": nil, "f1 g2 q1 q2 q3": {3}, "s1 a2 r c l": nil, "q5 s5 q4 a4": {4, 5}, "q1 g1 q1": nil,
	} {
		if got := audit.Open(notes(s)); !slices.Equal(got, want) {
			t.Errorf("Open of %s: %v", s, got)
		}
	}
	if got := audit.Open([]api.Note{{Kind: api.NoteQueued, Txn: math.MaxInt64}, {Kind: api.NoteQueued, Txn: math.MinInt64}}); !slices.Equal(got, []int64{math.MinInt64, math.MaxInt64}) {
		t.Error(got)
	}
}

func TestP23_2LineAndText(t *testing.T) {
	full := api.Action{Kind: api.ActAcl, Room: "!r:s", Subject: "@a:s", Reason: "why not", Deny: "a b"}
	var l []api.Note
	text := ""
	for _, x := range []struct {
		n    api.Note
		want string
	}{
		{api.Note{Kind: api.NoteRefused, Code: 12, Text: "x", Txn: 5, Action: full}, "refused 12"}, {api.Note{Kind: api.NoteRefused, Code: -3}, "refused -3"}, {api.Note{Kind: api.NoteCommand, Code: 7, Text: "!r:s \xff", Txn: 5}, "command 7 !r:s \xff"}, {api.Note{Kind: api.NoteCommand}, "command 0 "},
		{api.Note{Kind: api.NoteQueued, Txn: 1, Action: full}, "queued 1 acl !r:s @a:s why not a b"}, {api.Note{Kind: api.NoteSent, Txn: -12, Code: 5, Text: "x"}, "sent -12 ?    "}, {api.Note{Kind: api.NoteDone, Txn: math.MaxInt64, Action: ban("@a:s")}, "done 9223372036854775807 ban !r:s @a:s why "},
		{api.Note{Kind: api.NoteAgain, Action: api.Action{Kind: api.ActUnban}}, "again 0 unban    "}, {api.Note{Kind: api.NoteFailed, Action: api.Action{Kind: api.ActRedact, Subject: "$e"}}, "failed 0 redact  $e  "}, {api.Note{Kind: api.NoteGone, Action: api.Action{Kind: 5, Room: "x"}}, "gone 0 ? x   "},
		{api.Note{Kind: api.NoteGone, Action: api.Action{Kind: -1}}, "gone 0 ?    "}, {api.Note{Kind: api.NoteFull, Txn: 3, Code: 4, Text: "x", Action: full}, "full"}, {api.Note{}, "?"}, {api.Note{Kind: 10, Txn: 3, Code: 4, Text: "x", Action: full}, "?"}, {api.Note{Kind: -1}, "?"}, {api.Note{Kind: math.MaxInt}, "?"}, {api.Note{Kind: math.MinInt}, "?"},
	} {
		if got := audit.Line(x.n); got != x.want {
			t.Errorf("Line(%v) = %q, want %q", x.n, got, x.want)
		}
		l = append(l, x.n)
		text += x.want + "\n"
	}
	if got := audit.Text(l); got != text {
		t.Errorf("Text = %q", got)
	}
	if audit.Text(nil) != "" {
		t.Error("Text of nothing")
	}
}

// lives decides as the document does, by looking back at all notes of a transaction.
func lives(l []api.Note) int {
	queued := int64(0)
	for i, n := range l {
		before := audit.Of(l[:i], n.Txn)
		sent, ended, begun := false, false, false
		for _, b := range before {
			switch b.Kind {
			case api.NoteQueued:
				begun = true
			case api.NoteSent:
				sent = true
			case api.NoteAgain:
				sent = false
			case api.NoteDone, api.NoteFailed, api.NoteGone:
				ended = true
			}
		}
		ok := begun && !ended
		switch n.Kind {
		case api.NoteQueued:
			ok = n.Txn == queued+1
			queued++
		case api.NoteDone, api.NoteFailed, api.NoteAgain:
			ok = ok && sent
		case api.NoteGone:
			ok = ok && !sent
		case api.NoteSent:
		default:
			ok = true
		}
		if !ok {
			return i
		}
	}
	return -1
}

func TestP23_1AndP23_3(t *testing.T) {
	r := rand.New(rand.NewSource(31))
	valid := 0
	for range 20000 {
		var words []string
		next := 1
		for range r.Intn(10) {
			w := "qqssssdafgrcl"[r.Intn(13)]
			txn := 1 + r.Intn(3)
			if w == 'q' && r.Intn(9) > 0 {
				txn = next
				next++
			}
			if strings.ContainsRune("rcl", rune(w)) {
				words = append(words, string(w))
			} else {
				words = append(words, string([]byte{w, byte('0' + txn%10)}))
			}
		}
		s := strings.Join(words, " ")
		l := notes(s)
		got := audit.Life(l)
		if want := lives(l); got != want {
			t.Fatalf("Life of %s: %d, want %d", s, got, want)
		}
		if got >= 0 {
			l = l[:got]
		} else if len(l) > 4 {
			valid++
		}
		for i := range l {
			if audit.Life(l[:i]) >= 0 {
				t.Fatal("a prefix of a valid log is not valid", s)
			}
			for _, txn := range audit.Open(l) {
				if slices.ContainsFunc(l[:i], func(n api.Note) bool { return n.Kind == api.NoteQueued && n.Txn == txn }) && !slices.Contains(audit.Open(l[:i]), txn) {
					t.Fatal("what is open is not open in a prefix", s)
				}
			}
		}
	}
	if valid < 100 {
		t.Error(valid)
	}
}
