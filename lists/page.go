package lists

import (
	"outlaw/api"
	"outlaw/glob"
	"outlaw/index"
)

// mostStates keeps tables small, as most rules are asked about a few texts only.
const mostStates = 64

// A page has the rules of one room, in order, and an index of them that is made when they are asked for.
type page struct {
	rules []api.Rule
	index *index.Index
	odd   []int // the rules whose Entity is no valid glob, which no index takes
}

// find returns the rules of a kind whose Entity matches the text.
func (p *page) find(kind int, text string) []api.Rule {
	p.fill()
	var l []api.Rule
	take := func(at int) {
		if p.rules[at].Kind == kind {
			l = append(l, p.rules[at])
		}
	}
	for _, at := range p.index.Match(text) {
		take(at)
	}
	for _, at := range p.odd {
		if glob.Match(p.rules[at].Entity, text, folds(p.rules[at])) {
			take(at)
		}
	}
	return l
}

func (p *page) fill() {
	if p.index != nil {
		return
	}
	p.index = index.New(mostStates)
	for at, r := range p.rules {
		if p.index.Put(at, r.Entity, folds(r)) != api.OK {
			p.odd = append(p.odd, at)
		}
	}
}

// folds reports whether a rule is compared without case.
func folds(r api.Rule) bool {
	return r.Kind == api.RuleServer
}
