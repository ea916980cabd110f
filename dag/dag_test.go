package dag_test

import (
	"math/rand"
	"slices"
	"sort"
	"strconv"
	"testing"

	"outlaw/api"
	"outlaw/canon"
	"outlaw/dag"
	"outlaw/event"
)

func body(keys ...string) api.Json {
	v := api.Json{Kind: api.JsonObject, Keys: keys}
	for range keys {
		v.Items = append(v.Items, api.Json{Kind: api.JsonNull})
	}
	return v
}

func ev(id string, ts int64, prev ...string) api.Event {
	return api.Event{ID: id, Room: "!r:s", Sender: "@u:s", Type: "t", TS: ts, Prev: prev, Body: body()}
}

func example() []api.Event {
	return []api.Event{ev("$b", 1, "$a"), ev("$a", 5), ev("$c", 2, "$a"), ev("$d", 0, "$x")}
}

func idsOf(l []api.Event) []string {
	var out []string
	for _, e := range l {
		out = append(out, e.ID)
	}
	return out
}

func sameEvents(a, b []api.Event) bool {
	return slices.EqualFunc(a, b, event.Same)
}

func list(l ...string) []string { return l }

func TestP12_1Example(t *testing.T) {
	l := example()
	if got := dag.Order(l); !slices.Equal(got, list("$a", "$b", "$c")) {
		t.Error("Order", got)
	}
	if got := idsOf(dag.Placed(l)); !slices.Equal(got, list("$a", "$b", "$c")) {
		t.Error("Placed", got)
	}
	if got := idsOf(dag.Dedup(l)); !slices.Equal(got, list("$a", "$b", "$c", "$d")) {
		t.Error("Dedup", got)
	}
	if got := dag.Held(l); !slices.Equal(got, list("$d")) {
		t.Error("Held", got)
	}
	if got := dag.Missing(l); !slices.Equal(got, list("$x")) {
		t.Error("Missing", got)
	}
	if got := dag.Heads(l); !slices.Equal(got, list("$b", "$c")) {
		t.Error("Heads", got)
	}
	for id, want := range map[string][]string{"$a": nil, "$b": list("$a"), "$c": list("$a"), "$d": nil, "$x": nil, "": nil} {
		if got := dag.Ahead(l, id); !slices.Equal(got, want) {
			t.Error("Ahead", id, got)
		}
	}
	if len(dag.Dedup(nil))+len(dag.Order(nil))+len(dag.Placed(nil))+len(dag.Held(nil))+len(dag.Missing(nil))+len(dag.Heads(nil))+len(dag.Ahead(nil, "$a")) != 0 {
		t.Error("nothing comes of nothing")
	}
}

func TestP12_1Dedup(t *testing.T) {
	small, great := ev("$a", 1), ev("$a", 2)
	unsorted := ev("$b", 1)
	unsorted.Body = body("b", "a")
	sorted := ev("$b", 1)
	sorted.Body = body("a", "b")
	bad := []api.Event{{}, ev("c", 1), ev("$c", -1), ev("$c", 1, "$c"), ev("$c", 1, "x"), {ID: "$a", Room: "!r:s", Sender: "@u:s", Type: "t", Body: api.Json{Kind: api.JsonList}}}
	for i, l := range [][]api.Event{
		{small, great, unsorted}, {great, small, sorted}, {unsorted, great, sorted, small, great}, append([]api.Event{great, unsorted, small}, bad...), append(slices.Clone(bad), sorted, small),
	} {
		got := dag.Dedup(l)
		if !sameEvents(got, []api.Event{small, sorted}) {
			t.Errorf("%d: Dedup = %v", i, got)
		}
	}
	if got := dag.Dedup(bad); len(got) != 0 {
		t.Errorf("events that are not valid: %v", got)
	}
}

func TestP12_1Order(t *testing.T) {
	for i, x := range []struct {
		l                    []api.Event
		order, held, missing []string
		heads                []string
	}{
		{[]api.Event{ev("$b", 1), ev("$a", 1), ev("$c", 0)}, list("$c", "$a", "$b"), nil, nil, list("$a", "$b", "$c")},
		{[]api.Event{ev("$a", 9), ev("$b", 0, "$a"), ev("$c", 5)}, list("$c", "$a", "$b"), nil, nil, list("$b", "$c")},
		{[]api.Event{ev("$a", 1, "$b"), ev("$b", 1, "$a"), ev("$c", 1)}, list("$c"), list("$a", "$b"), nil, list("$c")},
		{[]api.Event{ev("$a", 1, "$b"), ev("$b", 1, "$c"), ev("$c", 1, "$a", "$d"), ev("$d", 1)}, list("$d"), list("$a", "$b", "$c"), nil, list("$d")},
		{[]api.Event{ev("$a", 1), ev("$b", 1, "$a", "$x"), ev("$c", 1, "$b", "$y")}, list("$a"), list("$b", "$c"), list("$x", "$y"), list("$a")},
		{[]api.Event{ev("$a", 3), ev("$b", 2, "$a"), ev("$c", 1, "$b"), ev("$d", 4, "$a")}, list("$a", "$b", "$c", "$d"), nil, nil, list("$c", "$d")},
		{[]api.Event{ev("$a", 3), ev("$b", 2, "$a"), ev("$c", 1, "$a", "$b")}, list("$a", "$b", "$c"), nil, nil, list("$c")},
		{[]api.Event{ev("$10", 1), ev("$9", 1), ev("$Z", 1), ev("$a", 1)}, list("$10", "$9", "$Z", "$a"), nil, nil, list("$10", "$9", "$Z", "$a")},
		{[]api.Event{ev("$a", 2), ev("$b", 10), ev("$c", 1<<53-1), ev("$d", 0)}, list("$d", "$a", "$b", "$c"), nil, nil, list("$a", "$b", "$c", "$d")},
		{[]api.Event{ev("$a", 1, "$x"), ev("$b", 1, "$x"), ev("$c", 1, "$w", "$x")}, nil, list("$a", "$b", "$c"), list("$w", "$x"), nil},
	} {
		if got := dag.Order(x.l); !slices.Equal(got, x.order) {
			t.Errorf("%d: Order = %v", i, got)
		}
		if got := dag.Held(x.l); !slices.Equal(got, x.held) {
			t.Errorf("%d: Held = %v", i, got)
		}
		if got := dag.Missing(x.l); !slices.Equal(got, x.missing) {
			t.Errorf("%d: Missing = %v", i, got)
		}
		if got := dag.Heads(x.l); !slices.Equal(got, x.heads) {
			t.Errorf("%d: Heads = %v", i, got)
		}
	}
}

func TestP12_1Copies(t *testing.T) {
	for name, f := range map[string]func(l []api.Event) []api.Event{"Dedup": dag.Dedup, "Placed": dag.Placed} {
		prev := make([]string, 1, 5)
		prev[0] = "$a"
		l := []api.Event{ev("$a", 1), ev("$b", 1)}
		l[1].Prev, l[1].Body = prev, body("b", "a")
		got := f(l)
		if len(got) != 2 || !slices.Equal(got[1].Body.Keys, list("a", "b")) {
			t.Fatalf("%s = %v", name, got)
		}
		got[1].Prev[0], got[1].Body.Keys[0], got[0].ID = "$z", "z", "$z"
		_ = append(got[1].Prev, "$spare")
		if prev[0] != "$a" || prev[:2][1] != "" || l[1].Body.Keys[0] != "b" || l[0].ID != "$a" {
			t.Errorf("%s shares memory with the list", name)
		}
	}
}

func TestP12_2Ahead(t *testing.T) {
	l := []api.Event{ev("$a", 1), ev("$b", 1, "$a"), ev("$c", 1, "$a"), ev("$d", 1, "$b", "$c", "$x"), ev("$p", 1, "$q", "$a"), ev("$q", 1, "$p"), ev("$s", 1, "$q", "$y")}
	for id, want := range map[string][]string{
		"$a": nil, "$b": list("$a"), "$d": list("$a", "$b", "$c"), "$p": list("$a", "$p", "$q"), "$q": list("$a", "$p", "$q"), "$s": list("$a", "$p", "$q"), "$x": nil, "$nothing": nil,
	} {
		if got := dag.Ahead(l, id); !slices.Equal(got, want) {
			t.Errorf("Ahead(%s) = %v", id, got)
		}
	}
}

// graph makes events with few IDs and times, some of them twice, on cycles, missing or not valid.
func graph(r *rand.Rand) []api.Event {
	var l []api.Event
	n := 1 + r.Intn(12)
	for range n + r.Intn(4) {
		i := r.Intn(n)
		e := ev("$"+strconv.Itoa(i), r.Int63n(4))
		for _, j := range r.Perm(n + 1)[:r.Intn(3)] {
			if j < i || r.Intn(6) == 0 {
				e.Prev = append(e.Prev, "$"+strconv.Itoa(j))
			}
		}
		e.Body = []api.Json{body(), body(), body("b", "a"), body("a", "b"), {}}[r.Intn(5)]
		l = append(l, e)
	}
	return l
}

// naive is the order as the document describes it.
func naive(l []api.Event) []string {
	var order []string
	for {
		best := -1
		for i, e := range l {
			ready := !slices.Contains(order, e.ID)
			for _, id := range e.Prev {
				ready = ready && slices.Contains(order, id)
			}
			if ready && (best < 0 || e.TS < l[best].TS || e.TS == l[best].TS && e.ID < l[best].ID) {
				best = i
			}
		}
		if best < 0 {
			return order
		}
		order = append(order, l[best].ID)
	}
}

// before is what is before an event, by going through all pairs until nothing is added.
func before(l []api.Event, id string) []string {
	var ahead []string
	for again := true; again; {
		again = false
		for _, e := range l {
			if e.ID != id && !slices.Contains(ahead, e.ID) {
				continue
			}
			for _, f := range l {
				if slices.Contains(e.Prev, f.ID) && !slices.Contains(ahead, f.ID) {
					ahead, again = append(ahead, f.ID), true
				}
			}
		}
	}
	sort.Strings(ahead)
	return ahead
}

func TestP12_1AndP12_2Naively(t *testing.T) {
	r := rand.New(rand.NewSource(16))
	for range 1500 {
		l := graph(r)
		events := dag.Dedup(l)
		want := map[string]api.Event{}
		for _, e := range l {
			if event.Check(e) == api.OK && (want[e.ID].ID == "" || event.Compare(e, want[e.ID]) < 0) {
				e.Body = canon.Canon(e.Body)
				want[e.ID] = e
			}
		}
		for i, e := range events {
			if !event.Same(e, want[e.ID]) || i > 0 && events[i-1].ID >= e.ID || len(events) != len(want) {
				t.Fatalf("Dedup(%v) = %v", l, events)
			}
		}
		order := naive(events)
		if got := dag.Order(l); !slices.Equal(got, order) {
			t.Fatalf("Order(%v) = %v, want %v", l, got, order)
		}
		var placed []api.Event
		for _, id := range order {
			placed = append(placed, want[id])
		}
		if !sameEvents(dag.Placed(l), placed) {
			t.Fatal("Placed", l)
		}
		var held, missing, heads []string
		for _, e := range events {
			if !slices.Contains(order, e.ID) {
				held = append(held, e.ID)
			} else if !slices.ContainsFunc(placed, func(f api.Event) bool { return slices.Contains(f.Prev, e.ID) }) {
				heads = append(heads, e.ID)
			}
			for _, id := range e.Prev {
				if want[id].ID == "" && !slices.Contains(missing, id) {
					missing = append(missing, id)
				}
			}
			if got := dag.Ahead(l, e.ID); !slices.Equal(got, before(events, e.ID)) {
				t.Fatalf("Ahead(%v, %s) = %v", l, e.ID, got)
			}
		}
		sort.Strings(missing)
		if !slices.Equal(dag.Held(l), held) || !slices.Equal(dag.Missing(l), missing) || !slices.Equal(dag.Heads(l), heads) {
			t.Fatalf("%v: %v, %v, %v, want %v, %v, %v", l, dag.Held(l), dag.Missing(l), dag.Heads(l), held, missing, heads)
		}
	}
}

func TestP12_3(t *testing.T) {
	r := rand.New(rand.NewSource(17))
	for range 800 {
		l := graph(r)
		m := append(slices.Clone(l), l[:r.Intn(len(l)+1)]...)
		r.Shuffle(len(m), func(i, j int) { m[i], m[j] = m[j], m[i] })
		if !sameEvents(dag.Dedup(l), dag.Dedup(m)) || !slices.Equal(dag.Order(l), dag.Order(m)) || !sameEvents(dag.Placed(l), dag.Placed(m)) ||
			!slices.Equal(dag.Held(l), dag.Held(m)) || !slices.Equal(dag.Missing(l), dag.Missing(m)) || !slices.Equal(dag.Heads(l), dag.Heads(m)) || !slices.Equal(dag.Ahead(l, "$3"), dag.Ahead(m, "$3")) {
			t.Fatal("the order of the list matters", l)
		}
		placed := dag.Placed(l)
		for i, e := range placed {
			for _, id := range e.Prev {
				if !slices.Contains(idsOf(placed[:i]), id) {
					t.Fatalf("%s comes before %s", e.ID, id)
				}
			}
		}
	}
}
