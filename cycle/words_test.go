package cycle_test

import (
	"math"
	"math/rand/v2"
	"slices"
	"testing"

	"alibi/api"
	"alibi/cycle"
	"alibi/graph"
)

// What the tests have of walks' words: what is to be told of a graph's edges, by the words of the chapter alone.

// edge is one.
func edge(from, to, label int) graph.Edge { return graph.Edge{From: from, To: to, Label: label} }

// row are edges from each of these nodes to the next one, with label 0.
func row(nodes ...int) []graph.Edge {
	var l []graph.Edge
	for i := 1; i < len(nodes); i++ {
		l = append(l, edge(nodes[i-1], nodes[i], 0))
	}
	return l
}

// made is a graph of so many nodes, with these edges.
func made(t *testing.T, n int, l ...graph.Edge) *graph.Graph {
	t.Helper()
	g, e := graph.New(n)
	if g == nil || e != api.OK {
		t.Fatalf("New(%d): %d", n, e)
	}
	if _, e := g.Add(l...); e != api.OK {
		t.Fatalf("Add(%v) of %d: %d", l, n, e)
	}
	return g
}

// walk tells whether edges are a walk.
func walk(l []graph.Edge) bool {
	for i, e := range l {
		if i+1 < len(l) && e.To != l[i+1].From {
			return false
		}
	}
	return true
}

// closed tells whether edges are a closed walk.
func closed(l []graph.Edge) bool {
	return walk(l) && len(l) > 0 && l[len(l)-1].To == l[0].From
}

// simple tells whether edges are a simple walk.
func simple(l []graph.Edge) bool {
	for i, e := range l {
		for _, f := range l[:i] {
			if e.From == f.From {
				return false
			}
		}
	}
	return closed(l)
}

// nodes are a walk's.
func nodes(l []graph.Edge) []int {
	if !walk(l) || len(l) == 0 {
		return nil
	}
	var n []int
	for _, e := range l {
		n = append(n, e.From)
	}
	if closed(l) {
		return n
	}
	return append(n, l[len(l)-1].To)
}

// less tells which one of two walks of the same length is less: by their nodes, then by their labels.
func less(a, b []graph.Edge) bool {
	for i := range a {
		if a[i].From != b[i].From || a[i].To != b[i].To {
			return a[i].From < b[i].From || a[i].From == b[i].From && a[i].To < b[i].To
		}
	}
	for i := range a {
		if a[i].Label != b[i].Label {
			return a[i].Label < b[i].Label
		}
	}
	return false
}

// model tells the least one of the shortest walks, of at least so many edges, from a node to another one; and whether there is one.
type model func(n int, l []graph.Edge, from, to, many int) ([]graph.Edge, bool)

// walks are all those with so many edges from a node.
func walks(l []graph.Edge, from, many int) [][]graph.Edge {
	if many == 0 {
		return [][]graph.Edge{nil}
	}
	var all [][]graph.Edge
	for _, e := range l {
		if e.From != from {
			continue
		}
		for _, rest := range walks(l, e.To, many-1) {
			all = append(all, append([]graph.Edge{e}, rest...))
		}
	}
	return all
}

// tried is the model that tries all walks.
func tried(n int, l []graph.Edge, from, to, many int) ([]graph.Edge, bool) {
	for ; many <= n; many++ {
		var best []graph.Edge
		ok := many == 0 && from == to
		for _, w := range walks(l, from, many) {
			if many > 0 && w[many-1].To == to && (!ok || less(w, best)) {
				best, ok = w, true
			}
		}
		if ok {
			return best, true
		}
	}
	return nil, false
}

// grownBack is the model that has of each node the least walk of so many edges to the end, of one more each time.
func grownBack(n int, l []graph.Edge, from, to, many int) ([]graph.Edge, bool) {
	least, has := make([][]graph.Edge, n), make([]bool, n)
	has[to] = true
	for length := 0; length <= n; length++ {
		if length >= many && has[from] {
			return least[from], true
		}
		longer, have := make([][]graph.Edge, n), make([]bool, n)
		for _, e := range l {
			if !has[e.To] {
				continue
			}
			w := append([]graph.Edge{e}, least[e.To]...)
			if !have[e.From] || less(w, longer[e.From]) {
				longer[e.From], have[e.From] = w, true
			}
		}
		least, has = longer, have
	}
	return nil, false
}

// found is an answer with its error.
func found(ok bool) api.Errno {
	if ok {
		return api.OK
	}
	return api.ErrWalk
}

// checkTo asks for what is told of the walks to a node, and of its closed ones; it tells the shortest of these, and whether there is one.
func checkTo(t *testing.T, g *graph.Graph, l []graph.Edge, to int, of model) ([]graph.Edge, bool) {
	t.Helper()
	far, e := cycle.Far(g, to)
	if len(far) != g.Len() || e != api.OK {
		t.Fatalf("Far of %d, %v, %d: %v, %d", g.Len(), l, to, far, e)
	}
	for from := range g.Len() {
		want, ok := of(g.Len(), l, from, to, 0)
		if w, e := cycle.Path(g, from, to); !slices.Equal(w, want) || e != found(ok) {
			t.Fatalf("Path of %d, %v, %d to %d: %v, %d; not %v", g.Len(), l, from, to, w, e, want)
		}
		if ok && far[from] != len(want) || !ok && far[from] != -1 {
			t.Fatalf("Far of %d, %v, %d: %v; not %d from %d", g.Len(), l, to, far, len(want), from)
		}
	}
	want, ok := of(g.Len(), l, to, to, 1)
	if w, e := cycle.Through(g, to); !slices.Equal(w, want) || e != found(ok) {
		t.Fatalf("Through of %d, %v, %d: %v, %d; not %v", g.Len(), l, to, w, e, want)
	}
	return want, ok
}

// checkGraph asks for all that is told of a graph with these edges.
func checkGraph(t *testing.T, g *graph.Graph, l []graph.Edge, of model) {
	t.Helper()
	var want []graph.Edge
	has := false
	for n := range g.Len() {
		w, ok := checkTo(t, g, l, n, of)
		if ok && (!has || len(w) < len(want) || len(w) == len(want) && less(w, want)) {
			want, has = w, true
		}
	}
	if w, e := cycle.Shortest(g); !slices.Equal(w, want) || e != found(has) {
		t.Fatalf("Shortest of %d, %v: %v, %d; not %v", g.Len(), l, w, e, want)
	}
}

// chance is a row of numbers that come by chance; the same ones each time.
func chance(seed uint64) *rand.Rand { return rand.New(rand.NewPCG(15, seed)) }

// labels are such at which something might turn.
func labels() []int { return []int{math.MinInt, -1, 0, 0, 0, 1, 65536, math.MaxInt} }

// grown are so many edges between n nodes, some of them twice, some next to one with another label; the same ones each time.
func grown(n, many int, seed uint64) []graph.Edge {
	r := chance(seed)
	var l []graph.Edge
	for range many {
		l = append(l, edge(r.IntN(n), r.IntN(n), labels()[r.IntN(len(labels()))]))
	}
	return l
}

// near are edges of which each goes some nodes forward at most, in a ring of n nodes that come by chance: so its closed walks are long.
func near(n, many, most int, seed uint64) []graph.Edge {
	r := chance(seed)
	ring := r.Perm(n)
	var l []graph.Edge
	for range many {
		i := r.IntN(n)
		l = append(l, edge(ring[i], ring[(i+1+r.IntN(most))%n], labels()[r.IntN(len(labels()))]))
	}
	return l
}

// mixed are the same edges in another order.
func mixed(seed uint64, l []graph.Edge) []graph.Edge {
	m := slices.Clone(l)
	chance(seed).Shuffle(len(m), func(i, j int) { m[i], m[j] = m[j], m[i] })
	return m
}
