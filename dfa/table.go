package dfa

import (
	"slices"

	"outlaw/glob"
	"outlaw/nfa"
)

// bytes is the number of different bytes.
const bytes = 256

// A table is the matcher that needs one step a byte.
type table struct {
	class  [bytes]int
	next   [][]int
	accept []bool
}

func (t *table) match(text string) bool {
	at := 0
	for i := range len(text) {
		at = t.next[at][t.class[text[i]]]
	}
	return t.accept[at]
}

func (t *table) states() int { return len(t.next) }

// A place is where a set of states of the glob is in the table.
type place struct{ number int }

// A builder numbers the sets that it finds.
type builder struct {
	n      *nfa.Nfa
	places map[string]place
	sets   [][]int
}

// number returns the number of a set, which is the next one if it has none yet.
func (b *builder) number(l []int) int {
	key := positions(l)
	at, is := b.places[key]
	if !is {
		at = place{len(b.sets)}
		b.places[key] = at
		b.sets = append(b.sets, l)
	}
	return at.number
}

// positions writes a set as a string; no position is above 255.
func positions(l []int) string {
	b := make([]byte, len(l))
	for i, at := range l {
		b[i] = byte(at)
	}
	return string(b)
}

// build returns the table of an automaton, if it has at most so many states.
func build(n *nfa.Nfa, most int) (*table, bool) {
	t := &table{}
	b := &builder{n: n, places: map[string]place{}}
	b.number(n.Start())
	one := classify(n, &t.class)
	for at := 0; at < len(b.sets); at++ {
		row := make([]int, len(one))
		for class, c := range one {
			row[class] = b.number(n.Step(b.sets[at], c))
			if len(b.sets) > most {
				return nil, false
			}
		}
		t.next = append(t.next, row)
		t.accept = append(t.accept, n.Accepts(b.sets[at]))
	}
	return t, true
}

// classify gives each byte its class, and returns one byte of each class.
func classify(n *nfa.Nfa, class *[bytes]int) []byte {
	norm, fold := n.Pattern()
	counts := func(s string) string { return s }
	if fold {
		counts = glob.Fold
	}
	own := []byte(counts(norm))
	slices.Sort(own)
	// The byte * stands for class 0, as it is never one that a glob compares.
	one := []byte{'*'}
	for _, c := range slices.Compact(own) {
		if c != '*' && c != '?' {
			one = append(one, c)
		}
	}
	for c := range bytes {
		class[c] = slices.Index(one[1:], counts(string([]byte{byte(c)}))[0]) + 1
	}
	return one
}
