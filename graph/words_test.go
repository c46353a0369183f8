package graph_test

import (
	"math"
	"math/rand/v2"
	"slices"
	"testing"

	"alibi/api"
	"alibi/graph"
)

// What the tests have of graphs' words: edges, and what is to be told of them, by the words of the chapter alone.

// edge is one.
func edge(from, to, label int) graph.Edge { return graph.Edge{From: from, To: to, Label: label} }

// none are numbers that are no node's, how many nodes there may ever be.
func none() []int {
	return []int{math.MinInt, math.MinInt + 1, -1 << 32, math.MinInt32, -65536, -2, -1, graph.MaxNodes, graph.MaxNodes + 1, math.MaxInt32, 1 << 32, 1<<32 + 1, math.MaxInt}
}

// labels are such at which something might turn.
func labels() []int {
	return []int{math.MinInt, math.MinInt + 1, -1 << 32, -256, -1, 0, 1, 2, 255, 65535, 65536, 1 << 32, math.MaxInt - 1, math.MaxInt}
}

// made is a graph of so many nodes, with these edges.
func made(t *testing.T, n int, l ...graph.Edge) *graph.Graph {
	t.Helper()
	g, e := graph.New(n)
	if g == nil || e != api.OK {
		t.Fatalf("New(%d): %d", n, e)
	}
	if _, e := g.Add(l...); e != api.OK {
		t.Fatalf("Add(%v) of %d: %d", l, n, e)
	}
	return g
}

// ahead tells whether an edge stands ahead of another one.
func ahead(a, b graph.Edge) bool {
	if a.From != b.From {
		return a.From < b.From
	}
	if a.To != b.To {
		return a.To < b.To
	}
	return a.Label < b.Label
}

// once are these edges in order, each once.
func once(l ...graph.Edge) []graph.Edge {
	var have []graph.Edge
	for _, e := range l {
		i := 0
		for i < len(have) && ahead(have[i], e) {
			i++
		}
		if i == len(have) || have[i] != e {
			have = slices.Insert(have, i, e)
		}
	}
	return have
}

// those are the edges of which ok holds.
func those(l []graph.Edge, ok func(e graph.Edge) bool) []graph.Edge {
	var have []graph.Edge
	for _, e := range l {
		if ok(e) {
			have = append(have, e)
		}
	}
	return have
}

// turned are the edges turned about, in order.
func turned(l []graph.Edge) []graph.Edge {
	var have []graph.Edge
	for _, e := range l {
		have = append(have, edge(e.To, e.From, e.Label))
	}
	return once(have...)
}

// nexts are the nodes to which these edges are, of those below n.
func nexts(n int, l []graph.Edge) []int {
	var have []int
	for to := range n {
		if slices.ContainsFunc(l, func(e graph.Edge) bool { return e.To == to }) {
			have = append(have, to)
		}
	}
	return have
}

// among are the edges of which both nodes are named.
func among(l []graph.Edge, nodes ...int) []graph.Edge {
	return those(l, func(e graph.Edge) bool { return slices.Contains(nodes, e.From) && slices.Contains(nodes, e.To) })
}

// checkHas asks of a graph whether it has so many nodes and just the edges of have, which are in order; by what tells of all of them.
func checkHas(t *testing.T, g *graph.Graph, n int, have []graph.Edge) {
	t.Helper()
	if g == nil || g.Len() != n || g.Many() != len(have) {
		t.Fatalf("%d nodes, %d edges; not %d, %v", g.Len(), g.Many(), n, have)
	}
	if l := g.Edges(); !slices.Equal(l, have) {
		t.Fatalf("Edges: %v, not %v", l, have)
	}
	for _, e := range have {
		if !g.Has(e) {
			t.Fatalf("Has(%v): false, of %v", e, have)
		}
	}
}

// checkNode asks a graph for what one node has.
func checkNode(t *testing.T, g *graph.Graph, n int, have []graph.Edge) {
	t.Helper()
	out := those(have, func(e graph.Edge) bool { return e.From == n })
	in := those(have, func(e graph.Edge) bool { return e.To == n })
	if l := g.Out(n); !slices.Equal(l, out) {
		t.Fatalf("Out(%d): %v, not %v", n, l, out)
	}
	if l := g.In(n); !slices.Equal(l, in) {
		t.Fatalf("In(%d): %v, not %v", n, l, in)
	}
	if l, want := g.Next(n), nexts(g.Len(), out); !slices.Equal(l, want) {
		t.Fatalf("Next(%d): %v, not %v", n, l, want)
	}
	for to := range g.Len() {
		want := those(out, func(e graph.Edge) bool { return e.To == to })
		if l := g.Between(n, to); !slices.Equal(l, want) {
			t.Fatalf("Between(%d, %d): %v, not %v", n, to, l, want)
		}
	}
}

// checkGraph asks for all that a graph of a few nodes tells, but for other graphs.
func checkGraph(t *testing.T, g *graph.Graph, n int, have []graph.Edge) {
	t.Helper()
	checkHas(t, g, n, have)
	for i := range n {
		checkNode(t, g, i, have)
	}
	for _, e := range have {
		for _, other := range []graph.Edge{edge(e.To, e.From, e.Label), edge(e.From, e.To, e.Label+1), edge(e.From, e.To, -e.Label), edge(e.From+1, e.To, e.Label), edge(e.From, e.To-1, e.Label)} {
			if ok := g.Has(other); ok != slices.Contains(have, other) {
				t.Fatalf("Has(%v): %v, of %v", other, ok, have)
			}
		}
	}
	for _, i := range append(none(), n, n+1) {
		checkNothing(t, g, i, n)
	}
}

// checkNothing tells that a number is no node's.
func checkNothing(t *testing.T, g *graph.Graph, i, n int) {
	t.Helper()
	if a, b, c, d := g.Out(i), g.In(i), g.Next(i), g.Between(i, i); len(a)+len(b)+len(c)+len(d) != 0 {
		t.Fatalf("%d of %d: %v, %v, %v, %v", i, n, a, b, c, d)
	}
	for at := range n {
		if a, b := g.Between(i, at), g.Between(at, i); len(a)+len(b) != 0 || g.Has(edge(i, at, 0)) || g.Has(edge(at, i, 0)) {
			t.Fatalf("%d of %d: %v, %v", i, n, a, b)
		}
	}
}

// checkOthers asks for the graphs that a graph of a few nodes tells.
func checkOthers(t *testing.T, g *graph.Graph, n int, have []graph.Edge) {
	t.Helper()
	checkGraph(t, g.Back(), n, turned(have))
	checkGraph(t, g.Copy(), n, have)
	if !graph.Same(g, g) || !graph.Same(g, g.Copy()) || !graph.Same(g.Copy(), g) {
		t.Fatalf("it is not the same as its copy: %v", have)
	}
	for set := range 1 << n {
		var nodes []int
		for i := range n {
			if set>>i&1 == 1 {
				nodes = append(nodes, i)
			}
		}
		checkGraph(t, g.Only(nodes...), n, among(have, nodes...))
	}
}

// chance is a row of numbers that come by chance; the same ones each time.
func chance(seed uint64) *rand.Rand { return rand.New(rand.NewPCG(13, seed)) }

// grown are so many edges between n nodes, some of them twice; the same ones each time.
func grown(n, many int, seed uint64) []graph.Edge {
	r := chance(seed)
	var l []graph.Edge
	for range many {
		switch few := 1 + n/4; r.IntN(4) {
		case 0:
			l = append(l, edge(r.IntN(few), r.IntN(few), r.IntN(2)))
		case 1:
			l = append(l, edge(r.IntN(few), r.IntN(n), labels()[r.IntN(len(labels()))]))
		case 2:
			l = append(l, edge(r.IntN(n), r.IntN(few), labels()[r.IntN(len(labels()))]))
		default:
			l = append(l, edge(r.IntN(n), r.IntN(n), int(r.Uint64())))
		}
	}
	return l
}

// mixed are the same edges in another order.
func mixed(seed uint64, l []graph.Edge) []graph.Edge {
	m := slices.Clone(l)
	chance(seed).Shuffle(len(m), func(i, j int) { m[i], m[j] = m[j], m[i] })
	return m
}
