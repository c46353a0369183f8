package graph_test

import (
	"slices"
	"testing"

	"alibi/graph"
)

// P13.6: each edge is out of one node, and into one.
func TestOutOfOneIntoOne(t *testing.T) {
	for seed := range uint64(40) {
		n := 1 + int(seed)
		g := made(t, n, grown(n, 200, seed)...)
		var out, in, between []graph.Edge
		for i := range n {
			out, in = append(out, g.Out(i)...), append(in, g.In(i)...)
			for _, to := range g.Next(i) {
				between = append(between, g.Between(i, to)...)
			}
		}
		if l := g.Edges(); !slices.Equal(out, l) || !slices.Equal(between, l) || len(in) != len(l) || !slices.Equal(once(in...), l) || g.Many() != len(l) {
			t.Fatalf("%d: %v, %v, %v, not %v", seed, out, in, between, l)
		}
	}
}

// P13.6: turned about twice, a graph is what it was; turned about once, what is from a node is to it.
func TestBackTwice(t *testing.T) {
	for seed := range uint64(40) {
		n := 1 + int(seed)
		g := made(t, n, grown(n, 100, 100+seed)...)
		b := g.Back()
		if !graph.Same(b.Back(), g) || b.Len() != n || b.Many() != g.Many() {
			t.Fatalf("%d: %v", seed, b.Back().Edges())
		}
		for i := range n {
			if !slices.Equal(b.Out(i), turned(g.In(i))) || !slices.Equal(b.In(i), turned(g.Out(i))) {
				t.Fatalf("%d: %d: %v, %v", seed, i, b.Out(i), b.In(i))
			}
		}
	}
}

// P13.6: of edges that are added in any order, and however often, comes the same graph; whatever was removed in between.
func TestAnyOrder(t *testing.T) {
	for seed := range uint64(40) {
		n := 1 + int(seed)
		l := grown(n, 80, 200+seed)
		g := made(t, n, l...)
		others := []*graph.Graph{made(t, n, mixed(seed, l)...), made(t, n, append(mixed(seed, l), mixed(seed+1, l)...)...), made(t, n, mixed(seed+2, l)...), made(t, n)}
		for i, e := range mixed(seed+3, l) {
			if i%2 == 0 {
				others[2].Remove(e)
			}
			others[3].Add(e, e)
		}
		others[2].Add(mixed(seed+4, l)...)
		for i, o := range others {
			if !graph.Same(g, o) || !graph.Same(o, g) || !slices.Equal(o.Edges(), g.Edges()) {
				t.Fatalf("%d, %d: %v, not %v", seed, i, o.Edges(), g.Edges())
			}
			for node := range n {
				if !slices.Equal(o.Out(node), g.Out(node)) || !slices.Equal(o.In(node), g.In(node)) {
					t.Fatalf("%d, %d: %d", seed, i, node)
				}
			}
		}
	}
}

// spoil changes all of a list, and what lies behind it.
func spoil[V any](l []V, v V) {
	l = l[:cap(l)]
	for i := range l {
		l[i] = v
	}
}

// spoilAnswers does so with all lists that a graph answers.
func spoilAnswers(g *graph.Graph) {
	spoil(g.Edges(), edge(7, 7, 7))
	for i := range g.Len() {
		spoil(g.Out(i), edge(7, 7, 7))
		spoil(g.In(i), edge(7, 7, 7))
		spoil(g.Next(i), 7)
		for to := range g.Len() {
			spoil(g.Between(i, to), edge(7, 7, 7))
		}
	}
}

// P13.5: what is answered is new memory: lists share none with the graph, and none with one another.
func TestNewMemory(t *testing.T) {
	for seed := range uint64(20) {
		l := grown(6, 5*int(seed), 300+seed)
		g, have := made(t, 6, l...), once(l...)
		edges, out, in, next, between := g.Edges(), g.Out(0), g.In(0), g.Next(0), g.Between(0, 0)
		spoilAnswers(g)
		checkGraph(t, g, 6, have)
		if !slices.Equal(edges, have) || !slices.Equal(out, g.Out(0)) || !slices.Equal(in, g.In(0)) || !slices.Equal(next, g.Next(0)) || !slices.Equal(between, g.Between(0, 0)) {
			t.Fatalf("%d: an answer lies in another one", seed)
		}
		whole := out[:cap(out)]
		was := slices.Clone(whole)
		g.Add(edge(0, 0, 12345), edge(0, 5, 12345))
		if !slices.Equal(whole, was) {
			t.Fatalf("%d: what comes later lies in an answer", seed)
		}
	}
}

// P13.5: graphs that come of a graph go their own ways, and so does it.
func TestOwnWays(t *testing.T) {
	for seed := range uint64(20) {
		l := grown(5, 3*int(seed), 400+seed)
		g, have := made(t, 5, l...), once(l...)
		for i, of := range []func() *graph.Graph{g.Copy, g.Back, func() *graph.Graph { return g.Only(0, 1, 2, 3, 4) }, func() *graph.Graph { return g.Only(0, 1) }} {
			one, other := of(), of()
			if one == g || one == other {
				t.Fatalf("%d, %d: no new memory", seed, i)
			}
			edges := other.Edges()
			spoilAnswers(one)
			for _, e := range one.Edges() {
				one.Remove(e)
			}
			one.Add(edge(0, 1, 777), edge(1, 0, 778))
			checkGraph(t, one, 5, once(edge(0, 1, 777), edge(1, 0, 778)))
			checkGraph(t, g, 5, have)
			checkGraph(t, other, 5, edges)
		}
		c := g.Copy()
		for _, e := range have {
			g.Remove(e)
		}
		g.Add(edge(4, 4, 779))
		checkGraph(t, c, 5, have)
		checkGraph(t, g, 5, []graph.Edge{edge(4, 4, 779)})
	}
}

// P13.5: what is handed in is only read, and not kept; what lies behind it is not touched.
func TestHandedIn(t *testing.T) {
	back := grown(4, 40, 500)
	was := slices.Clone(back)
	g := made(t, 4, back[:10]...)
	g.Add(back[5:12]...)
	g.Add(back[12:12]...)
	g.Add(back[20:25:25]...)
	g.Remove(back[21])
	if !slices.Equal(back, was) {
		t.Errorf("changed: %v", back)
	}
	clear(back)
	have := those(once(slices.Concat(was[:12], was[20:25])...), func(e graph.Edge) bool { return e != was[21] })
	checkGraph(t, g, 4, have)
	nodes := []int{3, 1, 9, 1, -5, 0, 2}
	o := g.Only(nodes[:3]...)
	if !slices.Equal(nodes, []int{3, 1, 9, 1, -5, 0, 2}) {
		t.Errorf("changed: %v", nodes)
	}
	clear(nodes)
	checkGraph(t, o, 4, among(have, 1, 3))
	checkGraph(t, g, 4, have)
	other := g.Copy()
	if !graph.Same(g, other) || !graph.Same(other, g) {
		t.Error("Same")
	}
	checkGraph(t, g, 4, have)
	checkGraph(t, other, 4, have)
}
