package topo_test

import (
	"math"
	"slices"
	"testing"

	"alibi/api"
	"alibi/graph"
	"alibi/topo"
)

// The chapter's examples.
func TestExamples(t *testing.T) {
	for i, x := range []struct {
		edges  []graph.Edge
		order  []int
		e      api.Errno
		rounds [][]int
		rest   []int
		depth  int
		only   bool
	}{
		{pairs(2, 0, 0, 3), []int{1, 2, 0, 3}, api.OK, [][]int{{1, 2}, {0}, {3}}, nil, 2, false},
		{pairs(2, 0, 0, 3, 3, 1), []int{2, 0, 3, 1}, api.OK, [][]int{{2}, {0}, {3}, {1}}, nil, 3, true},
		{pairs(1, 2, 2, 1, 2, 3), nil, api.ErrCycle, [][]int{{0}}, []int{1, 2, 3}, 0, false},
	} {
		g := made(t, 4, x.edges...)
		if l, e := topo.Sort(g); !slices.Equal(l, x.order) || e != x.e {
			t.Errorf("%d: Sort: %v, %d", i, l, e)
		}
		if l := topo.Rounds(g); !slices.EqualFunc(l, x.rounds, slices.Equal) {
			t.Errorf("%d: Rounds: %v", i, l)
		}
		if l := topo.Rest(g); !slices.Equal(l, x.rest) {
			t.Errorf("%d: Rest: %v", i, l)
		}
		if d, e := topo.Depth(g); d != x.depth || e != x.e {
			t.Errorf("%d: Depth: %d, %d", i, d, e)
		}
		if ok := topo.Only(g); ok != x.only {
			t.Errorf("%d: Only: %v", i, ok)
		}
	}
}

// P14.1 to P14.3: what a nil graph answers, and one made by hand, which has no nodes.
func TestNil(t *testing.T) {
	for _, n := range [][]int{nil, {0}, {0, 1}, {-1}} {
		if topo.Respects(nil, n...) {
			t.Errorf("%v", n)
		}
	}
	if l, e := topo.Sort(nil); len(l) != 0 || e != api.ErrNil {
		t.Errorf("Sort: %v, %d", l, e)
	}
	if d, e := topo.Depth(nil); d != 0 || e != api.ErrNil {
		t.Errorf("Depth: %d, %d", d, e)
	}
	if a, b := topo.Rounds(nil), topo.Rest(nil); len(a) != 0 || len(b) != 0 || topo.Only(nil) {
		t.Errorf("%v, %v", a, b)
	}
	for _, g := range []*graph.Graph{{}, made(t, 0)} {
		checkAway(t, g, nil)
		checkOrders(t, g, nil, [][]int{nil})
		if !topo.Respects(g) || topo.Respects(g, 0) || !topo.Only(g) || len(topo.Rounds(g)) != 0 {
			t.Error("of no nodes the empty row is the only order")
		}
	}
}

// P14.1: a row that is no order: one too few, one too many, one twice, or what is no node.
func TestRespectsNoOrder(t *testing.T) {
	for n := range 5 {
		g := made(t, n)
		var try func(row []int)
		try = func(row []int) {
			if ok := topo.Respects(g, row...); ok != order(n, row) {
				t.Fatalf("%d: %v: %v", n, row, ok)
			}
			if len(row) > n {
				return
			}
			for i := -1; i <= n; i++ {
				try(append(slices.Clone(row), i))
			}
		}
		try(nil)
	}
	g := made(t, 3)
	for _, n := range []int{math.MinInt, math.MinInt32, -65536, -3, -2, -1, 3, 4, 65535, 65536, math.MaxInt32, 1 << 32, 1<<32 + 1, math.MaxInt} {
		for place := range 3 {
			if row := slices.Insert([]int{2, 0}, place, n); topo.Respects(g, row...) {
				t.Errorf("%v", row)
			}
		}
	}
}

// P14.1: an edge from a node to itself is one that no order respects; one with any label counts.
func TestOneEdge(t *testing.T) {
	of := orders(3)
	for from := range 3 {
		for to := range 3 {
			for _, label := range labels() {
				l := []graph.Edge{edge(from, to, label)}
				g := made(t, 3, l...)
				checkAway(t, g, l)
				checkOrders(t, g, l, of)
			}
		}
	}
}

// P14.1 to P14.3: all graphs of three nodes, and of four without edges from a node to itself.
func TestAllSmall(t *testing.T) {
	for n := range 5 {
		var all []graph.Edge
		for from := range n {
			for to := range n {
				if from != to || n < 4 {
					all = append(all, edge(from, to, 7))
				}
			}
		}
		of := orders(n)
		for set := range 1 << len(all) {
			var l []graph.Edge
			for i, e := range all {
				if set>>i&1 == 1 {
					l = append(l, e)
				}
			}
			g := made(t, n, l...)
			checkAway(t, g, l)
			checkOrders(t, g, l, of)
		}
	}
}

// P14.1 to P14.3: graphs by chance, with closed walks and without, against the words.
func TestGrown(t *testing.T) {
	cycles, only, deep := 0, 0, 0
	for seed := range uint64(300) {
		n := 2 + int(seed%5)
		of := orders(n)
		l := grown(n, int(seed)%(3*n), seed)
		if seed%4 > 0 {
			l = forward(n, seed, l)
		}
		g := made(t, n, l...)
		checkAway(t, g, l)
		checkOrders(t, g, l, of)
		d, e := topo.Depth(g)
		if deep = max(deep, d); e != api.OK {
			cycles++
		}
		if topo.Only(g) {
			only++
		}
	}
	if cycles < 20 || only < 20 || deep < 5 {
		t.Errorf("%d, %d, %d", cycles, only, deep)
	}
}

// P14.2: greater graphs, against the words; the rest may have nodes that are on no closed walk.
func TestGrownAway(t *testing.T) {
	rests, long := 0, 0
	for seed := range uint64(200) {
		n := 10 + int(seed%40)
		l := grown(n, n*(1+int(seed%3))/2, 1000+seed)
		g := made(t, n, l...)
		checkAway(t, g, l)
		if r := topo.Rest(g); len(r) > 0 && len(r) < n {
			rests++
		}
		l = forward(n, seed, l)
		g = made(t, n, l...)
		checkAway(t, g, l)
		long = max(long, len(topo.Rounds(g)))
	}
	if rests < 50 || long < 6 {
		t.Errorf("%d, %d", rests, long)
	}
}

// P14.1: an order's numbers count from the left: a node that is taken lets a lower one come ahead of those that could be taken before it.
func TestFirst(t *testing.T) {
	for i, x := range []struct {
		n     int
		edges []graph.Edge
		order []int
	}{
		{5, pairs(3, 0), []int{1, 2, 3, 0, 4}}, {5, pairs(1, 0, 2, 0), []int{1, 2, 0, 3, 4}}, {6, pairs(5, 0, 2, 1), []int{2, 1, 3, 4, 5, 0}},
		{6, pairs(0, 5, 5, 1, 1, 2), []int{0, 3, 4, 5, 1, 2}}, {4, pairs(3, 2, 2, 1, 1, 0), []int{3, 2, 1, 0}}, {4, pairs(3, 1, 2, 0), []int{2, 0, 3, 1}},
	} {
		g := made(t, x.n, mixed(uint64(i), x.edges)...)
		if l, e := topo.Sort(g); !slices.Equal(l, x.order) || e != api.OK {
			t.Errorf("%d: %v, %d", i, l, e)
		}
	}
}

// P14.1 to P14.3: a row through as many nodes as may be; with an edge back it is a closed walk.
func TestLongRow(t *testing.T) {
	const n = graph.MaxNodes
	row := chance(1).Perm(n)
	var l []graph.Edge
	for i := range n - 1 {
		l = append(l, edge(row[i], row[i+1], i), edge(row[i], row[min(i+2, n-1)], i))
	}
	g := made(t, n, mixed(2, l)...)
	if have, e := topo.Sort(g); !slices.Equal(have, row) || e != api.OK {
		t.Fatalf("Sort: %d, %d", len(have), e)
	}
	d, e := topo.Depth(g)
	if d != n-1 || e != api.OK || !topo.Only(g) || len(topo.Rounds(g)) != n || len(topo.Rest(g)) != 0 || !topo.Respects(g, row...) {
		t.Fatalf("Depth: %d, %d", d, e)
	}
	row[7], row[8] = row[8], row[7]
	if topo.Respects(g, row...) {
		t.Fatal("two stand the wrong way")
	}
	g.Remove(l[200])
	g.Remove(l[201])
	if d, _ := topo.Depth(g); d != n-2 || topo.Only(g) {
		t.Fatalf("Depth: %d", d)
	}
	g.Add(l[200], edge(row[n-1], row[50], 0))
	a, e := topo.Sort(g)
	b, f := topo.Depth(g)
	if len(a) != 0 || e != api.ErrCycle || b != 0 || f != api.ErrCycle || len(topo.Rounds(g)) != 50 || len(topo.Rest(g)) != n-50 || topo.Only(g) {
		t.Fatalf("%d, %d; %d, %d", len(a), e, b, f)
	}
}

// P14.1 to P14.3: as many nodes as may be, most of which may be taken at once: those ahead of one, and behind it.
func TestBroad(t *testing.T) {
	const n, hub = graph.MaxNodes, 30000
	var l []graph.Edge
	for i := range n {
		if i < hub {
			l = append(l, edge(hub, i, i))
		} else if i > hub {
			l = append(l, edge(i, hub, i))
		}
	}
	g := made(t, n, mixed(3, l)...)
	var low, high []int
	for i := range n {
		if i < hub {
			low = append(low, i)
		} else if i > hub {
			high = append(high, i)
		}
	}
	if have, e := topo.Sort(g); !slices.Equal(have, slices.Concat(high, []int{hub}, low)) || e != api.OK {
		t.Fatalf("Sort: %d, %d", len(have), e)
	}
	if have := topo.Rounds(g); !slices.EqualFunc(have, [][]int{high, {hub}, low}, slices.Equal) {
		t.Fatalf("Rounds: %d", len(have))
	}
	if d, e := topo.Depth(g); d != 2 || e != api.OK || topo.Only(g) {
		t.Fatalf("Depth: %d, %d", d, e)
	}
	none := made(t, n)
	if have, e := topo.Sort(none); !slices.IsSorted(have) || !order(9, have[:9]) || len(have) != n || e != api.OK || len(topo.Rounds(none)) != 1 {
		t.Fatalf("%d, %d", len(have), e)
	}
}

// P14.1 to P14.3: very many edges, some with nothing but their labels unlike.
func TestManyEdges(t *testing.T) {
	const n = 700
	row := chance(4).Perm(n)
	var l []graph.Edge
	for i := range n {
		for j := range i {
			l = append(l, edge(row[j], row[i], i*j%3))
		}
		for label := range 100 {
			l = append(l, edge(row[0], row[max(i, 1)], label))
		}
	}
	g := made(t, n, mixed(5, l)...)
	if have, e := topo.Sort(g); !slices.Equal(have, row) || e != api.OK || !topo.Only(g) {
		t.Fatalf("%v, %d", have, e)
	}
	g.Add(edge(row[n-1], row[0], 0))
	if have := topo.Rest(g); len(have) != n || len(topo.Rounds(g)) != 0 {
		t.Fatalf("%v", have)
	}
}
