package cycle_test

import (
	"math"
	"slices"
	"testing"

	"alibi/api"
	"alibi/cycle"
	"alibi/graph"
)

// example is the chapter's graph.
func example(t *testing.T) *graph.Graph {
	t.Helper()
	return made(t, 4, edge(0, 1, 0), edge(1, 2, 0), edge(2, 0, 0), edge(2, 1, 0), edge(3, 3, 0), edge(1, 2, -1))
}

// The chapter's examples.
func TestExamples(t *testing.T) {
	g := example(t)
	if l, e := cycle.Shortest(g); !slices.Equal(l, []graph.Edge{edge(3, 3, 0)}) || e != api.OK {
		t.Errorf("Shortest: %v, %d", l, e)
	}
	if l, e := cycle.Through(g, 1); !slices.Equal(l, []graph.Edge{edge(1, 2, -1), edge(2, 1, 0)}) || e != api.OK {
		t.Errorf("Through(1): %v, %d", l, e)
	}
	if l, e := cycle.Through(g, 0); !slices.Equal(l, []graph.Edge{edge(0, 1, 0), edge(1, 2, -1), edge(2, 0, 0)}) || e != api.OK {
		t.Errorf("Through(0): %v, %d", l, e)
	}
	if l, e := cycle.Path(g, 0, 3); len(l) != 0 || e != api.ErrWalk {
		t.Errorf("Path: %v, %d", l, e)
	}
	if l, e := cycle.Far(g, 0); !slices.Equal(l, []int{0, 2, 1, -1}) || e != api.OK {
		t.Errorf("Far: %v, %d", l, e)
	}
}

// P15.1 to P15.3: what a nil graph answers.
func TestNil(t *testing.T) {
	if !cycle.Walk(nil) || cycle.Closed(nil) {
		t.Error("no edges are a walk of a nil graph, and not closed")
	}
	for _, l := range [][]graph.Edge{row(0, 0), row(0, 1), row(0, 1, 0), {{}}} {
		if cycle.Walk(nil, l...) || cycle.Closed(nil, l...) {
			t.Errorf("%v", l)
		}
	}
	for _, n := range []int{math.MinInt, -1, 0, 1, math.MaxInt} {
		if l, e := cycle.Path(nil, n, n); len(l) != 0 || e != api.ErrNil {
			t.Errorf("Path: %v, %d", l, e)
		}
		if l, e := cycle.Path(nil, n, 0); len(l) != 0 || e != api.ErrNil {
			t.Errorf("Path: %v, %d", l, e)
		}
		if l, e := cycle.Through(nil, n); len(l) != 0 || e != api.ErrNil {
			t.Errorf("Through: %v, %d", l, e)
		}
		if l, e := cycle.Far(nil, n); len(l) != 0 || e != api.ErrNil {
			t.Errorf("Far: %v, %d", l, e)
		}
	}
	if l, e := cycle.Shortest(nil); len(l) != 0 || e != api.ErrNil {
		t.Errorf("Shortest: %v, %d", l, e)
	}
}

// P15.2, P15.3: what is no node is told ahead of what is no walk; a graph without nodes has none.
func TestNoNode(t *testing.T) {
	for _, g := range []*graph.Graph{{}, made(t, 0), made(t, 1), made(t, 3), example(t)} {
		n := g.Len()
		for _, x := range []int{math.MinInt, math.MinInt32, -65536, -2, -1, n, n + 1, 65536, math.MaxInt32, 1 << 32, 1<<32 + 1, math.MaxInt} {
			for _, y := range []int{x, -1, 0, n - 1, n} {
				if l, e := cycle.Path(g, x, y); len(l) != 0 || e != api.ErrNode {
					t.Errorf("%d: Path(%d, %d): %v, %d", n, x, y, l, e)
				}
				if l, e := cycle.Path(g, y, x); len(l) != 0 || e != api.ErrNode {
					t.Errorf("%d: Path(%d, %d): %v, %d", n, y, x, l, e)
				}
			}
			if l, e := cycle.Through(g, x); len(l) != 0 || e != api.ErrNode {
				t.Errorf("%d: Through(%d): %v, %d", n, x, l, e)
			}
			if l, e := cycle.Far(g, x); len(l) != 0 || e != api.ErrNode {
				t.Errorf("%d: Far(%d): %v, %d", n, x, l, e)
			}
		}
	}
	for _, g := range []*graph.Graph{{}, made(t, 0), made(t, 5)} {
		checkGraph(t, g, nil, tried)
		if !cycle.Walk(g) || cycle.Closed(g) || cycle.Walk(g, row(0, 0)...) {
			t.Error("no edges are a walk, and no other one is there")
		}
	}
}

// P15.1: all rows of up to four of some edges, of which the graph has not all.
func TestRows(t *testing.T) {
	has := append(row(0, 1, 2, 0, 0), edge(0, 1, math.MinInt), edge(2, 1, math.MaxInt))
	none := []graph.Edge{edge(0, 1, 1), edge(1, 0, 0), edge(-7, -7, 3), edge(math.MaxInt, 0, 0)}
	g := made(t, 3, has...)
	all := slices.Concat(has, none)
	counts := map[string]int{}
	var try func(l []graph.Edge)
	try = func(l []graph.Edge) {
		there := !slices.ContainsFunc(l, func(e graph.Edge) bool { return slices.Contains(none, e) })
		a, b, c, n := cycle.Walk(g, l...), cycle.Closed(g, l...), cycle.Simple(l...), cycle.Nodes(l...)
		if a != (there && walk(l)) || b != (there && closed(l)) || c != simple(l) || !slices.Equal(n, nodes(l)) {
			t.Fatalf("%v: %v, %v, %v, %v", l, a, b, c, n)
		}
		if b && !c {
			counts["closed, not simple"]++
		}
		if c && !a {
			counts["simple, but not the graph's"]++
		}
		if a && !b {
			counts["a walk, not closed"]++
		}
		if len(l) < 4 {
			for _, e := range all {
				try(append(slices.Clone(l), e))
			}
		}
	}
	try(nil)
	for s, n := range counts {
		if n < 5 {
			t.Errorf("%s: %d", s, n)
		}
	}
	if len(counts) != 3 {
		t.Errorf("%v", counts)
	}
}

// P15.1: an edge that the graph has with another label alone, or turned about, or had, is none of its.
func TestNotItsEdges(t *testing.T) {
	g := made(t, 3, edge(0, 1, 5), edge(1, 0, 6), edge(1, 2, 7), edge(2, 0, 8))
	for i, l := range [][]graph.Edge{{edge(0, 1, 6), edge(1, 0, 6)}, {edge(0, 1, 5), edge(1, 0, 5)}, {edge(0, 2, 8)}, {edge(0, 1, 5), edge(1, 2, 7), edge(2, 0, 9)}} {
		if cycle.Walk(g, l...) || cycle.Closed(g, l...) || len(cycle.Nodes(l...)) == 0 {
			t.Errorf("%d: %v", i, l)
		}
	}
	l := []graph.Edge{edge(0, 1, 5), edge(1, 2, 7), edge(2, 0, 8)}
	if !cycle.Closed(g, l...) || cycle.Closed(g, l[:2]...) || !cycle.Walk(g, l[:2]...) || cycle.Walk(g, l[1], l[0]) {
		t.Errorf("%v", l)
	}
	g.Remove(l[1])
	if cycle.Walk(g, l...) || cycle.Closed(g, l...) || !cycle.Simple(l...) {
		t.Errorf("%v", l)
	}
}

// P15.1: long walks, simple up to their last edge, or with one node twice.
func TestLongWalks(t *testing.T) {
	const n = graph.MaxNodes
	ring := chance(1).Perm(n)
	ring = append(ring, ring[0])
	l := row(ring...)
	g := made(t, n, l...)
	if !cycle.Walk(g, l...) || !cycle.Closed(g, l...) || !cycle.Simple(l...) || !slices.Equal(cycle.Nodes(l...), ring[:n]) {
		t.Fatal("a ring")
	}
	if !cycle.Walk(g, l[1:]...) || cycle.Closed(g, l[1:]...) || cycle.Simple(l[1:]...) || !slices.Equal(cycle.Nodes(l[1:]...), ring[1:]) {
		t.Fatal("a ring but for one edge")
	}
	twice := append(slices.Clone(l), l...)
	if !cycle.Closed(g, twice...) || cycle.Simple(twice...) || len(cycle.Nodes(twice...)) != 2*n {
		t.Fatal("a ring twice")
	}
	l[n/2].From, l[n/2-1].To = ring[7], ring[7]
	if cycle.Walk(g, l...) || cycle.Simple(l...) || len(cycle.Nodes(l...)) != n {
		t.Fatal("a node twice")
	}
	l[n/2].From = -1
	if cycle.Walk(g, l...) || cycle.Simple(l...) || len(cycle.Nodes(l...)) != 0 {
		t.Fatal("no walk")
	}
}

// P15.2, P15.3: all graphs of up to three nodes, and of four without edges from a node to itself.
func TestAllSmall(t *testing.T) {
	for n := range 5 {
		var all []graph.Edge
		for from := range n {
			for to := range n {
				if from != to || n < 4 {
					all = append(all, edge(from, to, 7))
				}
			}
		}
		of := tried
		if n > 3 {
			of = grownBack
		}
		for set := range 1 << len(all) {
			var l []graph.Edge
			for i, e := range all {
				if set>>i&1 == 1 {
					l = append(l, e)
				}
			}
			checkGraph(t, made(t, n, l...), l, of)
		}
	}
}

// P15.2, P15.3: small graphs by chance, with many labels, against all their walks.
func TestGrownSmall(t *testing.T) {
	for seed := range uint64(300) {
		n := 1 + int(seed%6)
		l := grown(n, int(seed)%(2*n+1), seed)
		checkGraph(t, made(t, n, l...), l, tried)
	}
}

// P15.2, P15.3: greater graphs by chance, with short closed walks, with long ones, and with none.
func TestGrown(t *testing.T) {
	none, long, short := 0, 0, 0
	for seed := range uint64(120) {
		n := 7 + int(seed%14)
		l := near(n, n*(2+int(seed%7))/2, 1+int(seed%5), 1000+seed)
		if seed%3 == 0 {
			l = grown(n, n*(1+int(seed%4))/2, 1000+seed)
		}
		g := made(t, n, l...)
		checkGraph(t, g, l, grownBack)
		w, e := cycle.Shortest(g)
		if e != api.OK {
			none++
		} else if len(w) > 4 {
			long++
		} else {
			short++
		}
	}
	if none < 10 || long < 10 || short < 10 {
		t.Errorf("%d, %d, %d", none, long, short)
	}
}

// P15.2: of several walks that are as short the least by the nodes, whatever the labels; and between two nodes the edge with the least label.
func TestLeastPath(t *testing.T) {
	for i, x := range []struct {
		n     int
		edges []graph.Edge
		from  int
		to    int
		want  []graph.Edge
	}{
		{5, []graph.Edge{edge(0, 3, -9), edge(3, 4, -9), edge(0, 2, 9), edge(2, 4, 9)}, 0, 4, []graph.Edge{edge(0, 2, 9), edge(2, 4, 9)}},
		{6, slices.Concat(row(0, 2, 3, 5), row(0, 1, 4, 5)), 0, 5, row(0, 1, 4, 5)},
		{6, slices.Concat(row(0, 1, 4, 5), row(1, 3, 5), row(0, 2, 5)), 0, 5, row(0, 2, 5)},
		{6, slices.Concat(row(5, 0, 3, 4), row(0, 1, 4), row(5, 2, 4)), 5, 4, row(5, 2, 4)},
		{3, []graph.Edge{edge(2, 1, math.MaxInt), edge(2, 1, -1), edge(2, 1, 0), edge(1, 0, 3), edge(1, 0, math.MinInt), edge(1, 0, 2)}, 2, 0, []graph.Edge{edge(2, 1, -1), edge(1, 0, math.MinInt)}},
		{4, slices.Concat(row(0, 1, 0), row(1, 1), row(1, 3)), 0, 3, row(0, 1, 3)},
		{3, row(0, 0), 0, 0, nil},
		{3, row(0, 1, 0), 1, 1, nil},
	} {
		g := made(t, x.n, mixed(uint64(i), x.edges)...)
		if l, e := cycle.Path(g, x.from, x.to); !slices.Equal(l, x.want) || e != api.OK {
			t.Errorf("%d: %v, %d", i, l, e)
		}
	}
}

// P15.3: of several closed walks that are as short the least by the nodes; a shorter one that is found later, or at greater nodes, counts more.
func TestLeastShortest(t *testing.T) {
	for i, x := range []struct {
		n     int
		edges []graph.Edge
		want  []graph.Edge
	}{
		{6, slices.Concat(row(0, 1, 2, 0), row(3, 4, 3), row(5, 2, 5)), row(2, 5, 2)},
		{7, slices.Concat(row(0, 6, 1, 0), row(0, 5, 2, 0), row(4, 3, 6, 4)), row(0, 5, 2, 0)},
		{8, slices.Concat(row(0, 1, 2, 3, 0), row(1, 6, 4, 1), row(1, 5, 7, 1)), row(1, 5, 7, 1)},
		{5, slices.Concat(row(0, 1, 0), row(4, 4), row(3, 3)), row(3, 3)},
		{5, slices.Concat(row(0, 1, 2, 3), row(3, 4, 3)), row(3, 4, 3)},
		{5, slices.Concat(row(4, 3, 2, 4), row(2, 1), row(1, 0)), row(2, 4, 3, 2)},
		{5, slices.Concat(row(0, 2, 4, 0), row(1, 2, 3, 1)), row(0, 2, 4, 0)},
		{4, []graph.Edge{edge(2, 3, 8), edge(3, 2, -5), edge(2, 3, 7), edge(3, 2, -6), edge(2, 3, 9)}, []graph.Edge{edge(2, 3, 7), edge(3, 2, -6)}},
		{2, []graph.Edge{edge(1, 1, 4), edge(1, 1, math.MinInt), edge(1, 1, -4)}, []graph.Edge{edge(1, 1, math.MinInt)}},
		{4, row(0, 1, 2, 3), nil},
		{4, slices.Concat(row(0, 1, 3), row(0, 2, 3), row(0, 3)), nil},
	} {
		g := made(t, x.n, mixed(uint64(i), x.edges)...)
		if l, e := cycle.Shortest(g); !slices.Equal(l, x.want) || e != found(len(x.want) > 0) {
			t.Errorf("%d: %v, %d", i, l, e)
		}
	}
}

// P15.3: a node's closed walks begin with an edge from it, whatever else the walk goes through; one that reaches a closed walk, or is reached from one, may have none.
func TestThrough(t *testing.T) {
	g := made(t, 8, slices.Concat(row(3, 1, 2, 3), row(0, 3), row(2, 7), row(5, 5, 4, 6, 5), row(6, 6))...)
	for n, want := range [][]graph.Edge{nil, row(1, 2, 3, 1), row(2, 3, 1, 2), row(3, 1, 2, 3), row(4, 6, 5, 4), row(5, 5), row(6, 6), nil} {
		if l, e := cycle.Through(g, n); !slices.Equal(l, want) || e != found(len(want) > 0) {
			t.Errorf("%d: %v, %d", n, l, e)
		}
	}
}

// P15.2, P15.3: as many nodes as may be, in a ring; with an edge across it.
func TestRing(t *testing.T) {
	const n = graph.MaxNodes
	ring := chance(2).Perm(n)
	ring = append(ring, ring[0])
	l := row(ring...)
	g := made(t, n, mixed(3, l)...)
	at := slices.Index(ring, 0)
	turned := slices.Concat(l[at:], l[:at])
	if have, e := cycle.Shortest(g); !slices.Equal(have, turned) || e != api.OK {
		t.Fatalf("Shortest: %d, %d", len(have), e)
	}
	if have, e := cycle.Through(g, ring[9]); !slices.Equal(have, slices.Concat(l[9:], l[:9])) || e != api.OK {
		t.Fatalf("Through: %d, %d", len(have), e)
	}
	if have, e := cycle.Path(g, ring[5], ring[n-7]); !slices.Equal(have, l[5:n-7]) || e != api.OK {
		t.Fatalf("Path: %d, %d", len(have), e)
	}
	far, e := cycle.Far(g, ring[n-1])
	for i := range n {
		if e != api.OK || far[ring[i]] != n-1-i {
			t.Fatalf("Far: %d, %d: %d", e, i, far[ring[i]])
		}
	}
	across := edge(ring[n-100], ring[50], 0)
	g.Add(across)
	short := slices.Concat(l[50:n-100], []graph.Edge{across})
	turned = slices.Clone(short)
	for i := range short { // at its least node
		if short[i].From < turned[0].From {
			turned = slices.Concat(short[i:], short[:i])
		}
	}
	if have, e := cycle.Shortest(g); !slices.Equal(have, turned) || e != api.OK {
		t.Fatalf("Shortest, with an edge across: %d, %d", len(have), e)
	}
	g.Remove(across)
	g.Remove(l[n-1])
	if have, e := cycle.Shortest(g); len(have) != 0 || e != api.ErrWalk {
		t.Fatalf("Shortest, of a row: %d, %d", len(have), e)
	}
	if have, e := cycle.Path(g, ring[0], ring[n-1]); !slices.Equal(have, l[:n-1]) || e != api.OK {
		t.Fatalf("Path, of a row: %d, %d", len(have), e)
	}
	if have, e := cycle.Path(g, ring[n-1], ring[0]); len(have) != 0 || e != api.ErrWalk {
		t.Fatalf("Path, back in a row: %d, %d", len(have), e)
	}
}

// P15.3: as many nodes as may be, all of whose edges go forward but for one; and in many closed walks, of which a late one is shortest.
func TestMany(t *testing.T) {
	const n = graph.MaxNodes
	r := chance(4)
	order := r.Perm(n)
	var l []graph.Edge
	for range 3 * n {
		if i, j := r.IntN(n), r.IntN(n); i != j {
			l = append(l, edge(order[min(i, j)], order[max(i, j)], r.IntN(3)))
		}
	}
	g := made(t, n, l...)
	if have, e := cycle.Shortest(g); len(have) != 0 || e != api.ErrWalk {
		t.Fatalf("%v, %d", have, e)
	}
	last := edge(l[77].To, l[77].From, -1)
	g.Add(last)
	if have, e := cycle.Shortest(g); len(have) != 2 || !slices.Contains(have, last) || !cycle.Simple(have...) || e != api.OK {
		t.Fatalf("%v, %d", have, e)
	}
	var rings []graph.Edge
	for first := 0; first < n; first += 16 {
		for i := range 16 {
			rings = append(rings, edge(first+i, first+(i+1)%16, i))
		}
	}
	g = made(t, n, mixed(5, rings)...)
	if have, e := cycle.Shortest(g); !slices.Equal(have, rings[:16]) || e != api.OK {
		t.Fatalf("%v, %d", have, e)
	}
	g.Add(edge(60002, 60001, 0))
	if have, e := cycle.Shortest(g); !slices.Equal(have, []graph.Edge{edge(60001, 60002, 1), edge(60002, 60001, 0)}) || e != api.OK {
		t.Fatalf("%v, %d", have, e)
	}
}

// P15.2, P15.3: very many edges, between all nodes.
func TestManyEdges(t *testing.T) {
	const n = 400
	var l []graph.Edge
	for i := range n {
		for j := range n {
			if i != j {
				l = append(l, edge(i, j, i*j%3), edge(i, j, 3))
			}
		}
	}
	g := made(t, n, mixed(6, l)...)
	if have, e := cycle.Shortest(g); !slices.Equal(have, []graph.Edge{edge(0, 1, 0), edge(1, 0, 0)}) || e != api.OK {
		t.Fatalf("%v, %d", have, e)
	}
	if have, e := cycle.Path(g, 301, 302); !slices.Equal(have, []graph.Edge{edge(301, 302, 301*302%3)}) || e != api.OK {
		t.Fatalf("%v, %d", have, e)
	}
	far, e := cycle.Far(g, 7)
	for i, have := range far {
		if want := min(1, max(i-7, 7-i)); have != want || e != api.OK {
			t.Fatalf("%d: %d, %d", i, have, e)
		}
	}
	g.Remove(edge(301, 302, 301*302%3))
	g.Remove(edge(301, 302, 3))
	if have, e := cycle.Path(g, 301, 302); !slices.Equal(have, []graph.Edge{edge(301, 0, 0), edge(0, 302, 0)}) || e != api.OK {
		t.Fatalf("%v, %d", have, e)
	}
}
