package dag

import (
	"cmp"
	"container/heap"

	"outlaw/api"
)

// next are the events that may come next, as a heap: the smallest is first.
type next []api.Event

func (n next) Len() int { return len(n) }

func (n next) Less(i, j int) bool {
	return cmp.Or(cmp.Compare(n[i].TS, n[j].TS), cmp.Compare(n[i].ID, n[j].ID)) < 0
}

func (n next) Swap(i, j int) { n[i], n[j] = n[j], n[i] }

func (n *next) Push(x any) {
	if e, is := x.(api.Event); is {
		*n = append(*n, e)
	}
}

func (n *next) Pop() any {
	last := len(*n) - 1
	e := (*n)[last]
	*n = (*n)[:last]
	return e
}

// place puts events into the order; those that wait for one that never comes, or for each other, are left out.
func place(l []api.Event) []api.Event {
	ready := &next{}
	lacking := map[string]int{}
	waiting := map[string][]string{}
	there := byID(l)
	for _, e := range l {
		lacking[e.ID] = len(e.Prev)
		for _, id := range e.Prev {
			waiting[id] = append(waiting[id], e.ID)
		}
		if len(e.Prev) == 0 {
			heap.Push(ready, e)
		}
	}
	var out []api.Event
	for ready.Len() > 0 {
		e, is := heap.Pop(ready).(api.Event)
		if !is {
			break
		}
		out = append(out, e)
		for _, id := range waiting[e.ID] {
			lacking[id]--
			if lacking[id] == 0 {
				heap.Push(ready, there[id])
			}
		}
	}
	return out
}
