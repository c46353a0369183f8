package topo_test

import (
	"slices"
	"testing"

	"alibi/api"
	"alibi/graph"
	"alibi/topo"
)

// graphs are some by chance, of sizes up to some 60 nodes: with closed walks and without.
func graphs(t *testing.T, seed uint64) (*graph.Graph, []graph.Edge) {
	t.Helper()
	n := 1 + int(seed%60)
	l := grown(n, n*(1+int(seed%4))/2, 2000+seed)
	if seed%2 == 0 {
		l = forward(n, seed, l)
	}
	return made(t, n, l...), l
}

// P14.5: there is an order just if there is no closed walk, just if the rest is empty; then there are as many rounds as Depth and 1, and they are such an order.
func TestOrderOrWalk(t *testing.T) {
	orders, walks := 0, 0
	for seed := range uint64(300) {
		g, l := graphs(t, seed)
		row, e := topo.Sort(g)
		d, f := topo.Depth(g)
		rounds, rest := topo.Rounds(g), topo.Rest(g)
		behind := slices.Concat(rounds...)
		if comesBack(g.Len(), l) {
			walks++
			if e != api.ErrCycle || f != api.ErrCycle || len(rest) == 0 || len(behind)+len(rest) != g.Len() || topo.Only(g) || topo.Respects(g, append(behind, rest...)...) {
				t.Fatalf("%d: %v: %v, %d; %d, %d; %v", seed, l, row, e, d, f, rest)
			}
			continue
		}
		orders++
		if e != api.OK || f != api.OK || len(rest) != 0 || len(rounds) != d+1 || !topo.Respects(g, row...) || !topo.Respects(g, behind...) || !order(g.Len(), row) || !order(g.Len(), behind) || !respects(l, row) || !respects(l, behind) {
			t.Fatalf("%d: %v: %v, %d; %d, %d; %v, %v", seed, l, row, e, d, f, rounds, rest)
		}
		if slices.Compare(row, behind) > 0 {
			t.Fatalf("%d: %v: %v stands behind %v", seed, l, row, behind)
		}
	}
	if orders < 100 || walks < 50 {
		t.Errorf("%d, %d", orders, walks)
	}
}

// P14.5: each node of the rest has an edge to it from one of the rest; each one of a round has one from the round ahead, if there is one, and none from its own.
func TestRestHasEdges(t *testing.T) {
	rests := 0
	for seed := range uint64(300) {
		g, l := graphs(t, seed)
		rest := topo.Rest(g)
		rests += len(rest)
		from := func(in []int, to int) bool {
			return slices.ContainsFunc(l, func(e graph.Edge) bool { return e.To == to && slices.Contains(in, e.From) })
		}
		for _, n := range rest {
			if !from(rest, n) {
				t.Fatalf("%d: %v: %d of %v", seed, l, n, rest)
			}
		}
		rounds := topo.Rounds(g)
		for i, round := range rounds {
			for _, n := range round {
				if from(rest, n) || from(round, n) || i > 0 && !from(rounds[i-1], n) {
					t.Fatalf("%d: %v: %d of %v", seed, l, n, rounds)
				}
			}
		}
	}
	if rests < 500 {
		t.Errorf("%d", rests)
	}
}

// P14.1 to P14.3: what is told of a graph hangs on its edges, not on how they came; and is told alike each time.
func TestAlike(t *testing.T) {
	for seed := range uint64(60) {
		g, l := graphs(t, seed)
		o := made(t, g.Len(), append(mixed(seed, l), l...)...)
		for range 3 {
			a, e := topo.Sort(g)
			b, f := topo.Sort(o)
			if !slices.Equal(a, b) || e != f || !slices.EqualFunc(topo.Rounds(g), topo.Rounds(o), slices.Equal) || !slices.Equal(topo.Rest(g), topo.Rest(o)) || topo.Only(g) != topo.Only(o) {
				t.Fatalf("%d: %v, %d; %v, %d", seed, a, e, b, f)
			}
		}
	}
}

// spoil changes all of a list, and what lies behind it.
func spoil(l []int) {
	l = l[:cap(l)]
	for i := range l {
		l[i] = 7777
	}
}

// P14.4: what is answered is new memory: lists share none with the graph, with one another, or within one answer.
func TestNewMemory(t *testing.T) {
	for seed := range uint64(60) {
		g, l := graphs(t, seed)
		of := g.Copy()
		row, _ := topo.Sort(g)
		rounds, rest := topo.Rounds(g), topo.Rest(g)
		whole, left := slices.Clone(row), slices.Clone(rest)
		a, _ := topo.Sort(g)
		spoil(a)
		spoil(topo.Rest(g))
		for _, r := range topo.Rounds(g) {
			spoil(r)
		}
		checkAway(t, g, l)
		if !graph.Same(g, of) || !slices.Equal(row, whole) || !slices.Equal(rest, left) {
			t.Fatalf("%d: an answer lies in another one", seed)
		}
		want, _ := away(g.Len(), l)
		for i, r := range rounds {
			if !slices.Equal(r, want[i]) {
				t.Fatalf("%d: round %d: %v, not %v", seed, i, r, want[i])
			}
			spoil(r)
		}
	}
}

// P14.4: what is handed in is only read, and not kept; what lies behind a row is not touched.
func TestHandedIn(t *testing.T) {
	l := pairs(2, 0, 0, 3)
	g := made(t, 4, l...)
	rows := []int{1, 2, 0, 3, 9, 9}
	for range 2 {
		if !topo.Respects(g, rows[:4]...) || topo.Respects(g, rows[1:5]...) || topo.Respects(g, rows[:3]...) || topo.Respects(g, rows...) || !slices.Equal(rows, []int{1, 2, 0, 3, 9, 9}) {
			t.Fatalf("%v", rows)
		}
	}
	copy(rows, []int{3, 0, 2, 1})
	if topo.Respects(g, rows[:4]...) || !topo.Respects(g, 2, 1, 0, 3) {
		t.Fatal("a row was kept")
	}
	for seed := range uint64(60) {
		g, _ := graphs(t, seed)
		of := g.Copy()
		row, _ := topo.Sort(g)
		topo.Respects(g, row...)
		topo.Rounds(g)
		topo.Rest(g)
		topo.Depth(g)
		topo.Only(g)
		if !graph.Same(g, of) {
			t.Fatalf("%d: the graph was changed", seed)
		}
	}
	g.Add(edge(3, 1, 0))
	if row, e := topo.Sort(g); !slices.Equal(row, []int{2, 0, 3, 1}) || e != api.OK {
		t.Fatalf("the graph was kept as it had been: %v, %d", row, e)
	}
}
