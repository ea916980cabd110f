package audit

import (
	"strconv"
	"strings"

	"outlaw/api"
)

// unknown is the word for a kind that does not exist.
const unknown = "?"

// noteWord returns the word for a kind of notes.
func noteWord(kind int) string {
	words := [10]string{"", "refused", "command", "queued", "sent", "done", "again", "failed", "gone", "full"}
	if kind < 1 || kind >= len(words) {
		return unknown
	}
	return words[kind]
}

// actionWord returns the word for a kind of actions.
func actionWord(kind int) string {
	words := [5]string{"", "ban", "unban", "acl", "redact"}
	if kind < 1 || kind >= len(words) {
		return unknown
	}
	return words[kind]
}

// Line returns a note in words.
func Line(n api.Note) string {
	parts := []string{noteWord(n.Kind)}
	if n.Kind == api.NoteRefused || n.Kind == api.NoteCommand {
		parts = append(parts, strconv.Itoa(n.Code))
	}
	if n.Kind == api.NoteCommand {
		parts = append(parts, n.Text)
	}
	if ofTransaction(n.Kind) {
		a := n.Action
		parts = append(parts, strconv.FormatInt(n.Txn, 10), actionWord(a.Kind), a.Room, a.Subject, a.Reason, a.Deny)
	}
	return strings.Join(parts, " ")
}

// Text returns all notes in words, each followed by a line feed.
func Text(l []api.Note) string {
	var b strings.Builder
	for _, n := range l {
		b.WriteString(Line(n))
		b.WriteByte('\n')
	}
	return b.String()
}
