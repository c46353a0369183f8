package graph_test

import (
	"math"
	"slices"
	"testing"

	"alibi/api"
	"alibi/graph"
)

// The chapter's examples.
func TestExamples(t *testing.T) {
	g := made(t, 3)
	if n, e := g.Add(edge(0, 1, 5), edge(0, 1, 3), edge(2, 0, 1), edge(0, 1, 5)); n != 3 || e != api.OK || g.Many() != 3 {
		t.Errorf("Add: %d, %d; Many: %d", n, e, g.Many())
	}
	if out, next, in := g.Out(0), g.Next(0), g.In(0); !slices.Equal(out, []graph.Edge{edge(0, 1, 3), edge(0, 1, 5)}) || !slices.Equal(next, []int{1}) || !slices.Equal(in, []graph.Edge{edge(2, 0, 1)}) {
		t.Errorf("%v, %v, %v", out, next, in)
	}
	if n, e := g.Add(edge(0, 3, 0)); n != 0 || e != api.ErrNode {
		t.Errorf("Add of 0 to 3: %d, %d", n, e)
	}
	if l := g.Only(0, 2).Edges(); !slices.Equal(l, []graph.Edge{edge(2, 0, 1)}) {
		t.Errorf("Only: %v", l)
	}
}

// P13.1: how many nodes there may be.
func TestNew(t *testing.T) {
	for _, n := range []int{0, 1, 2, 3, 255, 256, 65535, graph.MaxNodes} {
		g, e := graph.New(n)
		if g == nil || e != api.OK || g.Len() != n || g.Many() != 0 || len(g.Edges()) != 0 {
			t.Fatalf("%d: %d; %d nodes, %v", n, e, g.Len(), g.Edges())
		}
		for _, i := range []int{0, 1, n - 1, n} {
			if a, b, c, d := g.Out(i), g.In(i), g.Next(i), g.Between(i, i); len(a)+len(b)+len(c)+len(d) != 0 {
				t.Errorf("%d: %d: %v, %v, %v, %v", n, i, a, b, c, d)
			}
		}
	}
	for _, n := range []int{-1, -2, -65536, math.MinInt32, math.MinInt, 65537, 65536 * 2, math.MaxInt32, 1 << 32, math.MaxInt} {
		if g, e := graph.New(n); g != nil || e != api.ErrArg {
			t.Errorf("%d: %v, %d", n, g, e)
		}
	}
	if graph.MaxNodes != 65536 {
		t.Errorf("%d", graph.MaxNodes)
	}
}

// P13.1: edges stand by From, To, Label; whatever their numbers.
func TestCmp(t *testing.T) {
	var l []graph.Edge
	at := []int{math.MinInt, -1, 0, 1, math.MaxInt}
	for _, from := range at {
		for _, to := range at {
			for _, label := range at {
				l = append(l, edge(from, to, label))
			}
		}
	}
	for i, a := range l {
		for j, b := range l {
			want := 0
			if i < j {
				want = -1
			} else if i > j {
				want = 1
			}
			if n := graph.Cmp(a, b); n != want {
				t.Fatalf("Cmp(%v, %v): %d", a, b, n)
			}
		}
	}
}

// P13.2: how many were not there; those that come twice in one row, and those that were there, do not count.
func TestAdd(t *testing.T) {
	g := made(t, 4)
	var have []graph.Edge
	for i, v := range []struct {
		l []graph.Edge
		n int
	}{
		{nil, 0}, {[]graph.Edge{}, 0}, {[]graph.Edge{edge(3, 0, 0)}, 1}, {[]graph.Edge{edge(3, 0, 0)}, 0},
		{[]graph.Edge{edge(0, 3, 0), edge(3, 0, 1), edge(3, 0, -1), edge(3, 0, 0)}, 3},
		{[]graph.Edge{edge(2, 2, 7), edge(2, 2, 7), edge(2, 2, 7)}, 1}, {[]graph.Edge{edge(2, 2, 8), edge(2, 2, 7), edge(2, 2, 8), edge(2, 2, 6)}, 2},
		{[]graph.Edge{edge(0, 0, math.MinInt), edge(0, 0, math.MaxInt), edge(0, 0, 0)}, 3},
		{[]graph.Edge{edge(0, 1, 1<<32+1), edge(0, 1, 1), edge(0, 1, 1<<32+1)}, 2}, {[]graph.Edge{edge(3, 3, 3), edge(0, 3, 0)}, 1},
	} {
		have = once(append(have, v.l...)...)
		if n, e := g.Add(v.l...); n != v.n || e != api.OK {
			t.Errorf("%d: Add(%v): %d, %d, not %d", i, v.l, n, e, v.n)
		}
		checkGraph(t, g, 4, have)
	}
	checkOthers(t, g, 4, have)
}

// P13.2: one edge from, or to, what is no node, at whatever place, and nothing is done.
func TestAddNoNode(t *testing.T) {
	for _, n := range []int{0, 1, 2, 5, 65536} {
		var have []graph.Edge
		if n > 1 {
			have = []graph.Edge{edge(0, 1, 4), edge(1, 0, 4)}
		}
		g := made(t, n, have...)
		for _, i := range append(none(), n, n+1) {
			for _, wrong := range []graph.Edge{edge(i, 0, 0), edge(0, i, 0), edge(i, i, 0), edge(i, n-1, 1), edge(n-1, i, 1)} {
				for place := range 3 {
					l := []graph.Edge{edge(0, 0, 8), edge(n-1, 0, 9)}
					if m, e := g.Add(slices.Insert(l, place, wrong)...); m != 0 || e != api.ErrNode {
						t.Fatalf("%d: %v: %d, %d", n, wrong, m, e)
					}
					if g.Has(wrong) || g.Remove(wrong) {
						t.Fatalf("%d: %v", n, wrong)
					}
				}
			}
		}
		checkHas(t, g, n, have)
	}
}

// P13.2: an edge is there till it is removed; another label, and the way back, are other edges.
func TestRemove(t *testing.T) {
	all := []graph.Edge{edge(0, 1, 5), edge(0, 1, 3), edge(1, 0, 5), edge(0, 0, 5), edge(1, 1, 3), edge(0, 2, 5), edge(2, 1, 5)}
	for seed := range uint64(50) {
		have := once(all...)
		g := made(t, 3, mixed(seed, all)...)
		for _, e := range mixed(seed+1000, all) {
			for _, other := range []graph.Edge{edge(e.From, e.To, e.Label+1), edge(2, 0, 5), edge(2, 2, 5), edge(-1, 0, 5), edge(0, 3, 5)} {
				if !slices.Contains(have, other) && (g.Has(other) || g.Remove(other)) {
					t.Fatalf("%v is there, in %v", other, have)
				}
			}
			if !g.Has(e) || !g.Remove(e) || g.Has(e) || g.Remove(e) {
				t.Fatalf("%v, in %v", e, have)
			}
			have = those(have, func(o graph.Edge) bool { return o != e })
			checkGraph(t, g, 3, have)
		}
		if n, e := g.Add(all...); n != len(all) || e != api.OK {
			t.Fatalf("again: %d, %d", n, e)
		}
		checkGraph(t, g, 3, once(all...))
	}
}

// P13.3: edges in order, whatever labels they have.
func TestLabels(t *testing.T) {
	var l, want []graph.Edge
	for _, label := range labels() {
		l = append(l, edge(1, 0, label), edge(0, 1, label), edge(1, 1, label))
		want = append(want, edge(1, 0, label))
	}
	slices.Reverse(l)
	g := made(t, 2, l...)
	if between, in := g.Between(1, 0), g.In(0); !slices.Equal(between, want) || !slices.Equal(in, want) {
		t.Errorf("%v, %v", between, in)
	}
	checkGraph(t, g, 2, once(l...))
	checkOthers(t, g, 2, once(l...))
}

// P13.4: nodes that are named twice, or are none, are as if they were named once, or not.
func TestOnly(t *testing.T) {
	l := []graph.Edge{edge(0, 1, 1), edge(1, 2, 2), edge(2, 3, 3), edge(3, 0, 4), edge(1, 1, 5), edge(2, 1, 6), edge(2, 1, 7)}
	g := made(t, 5, l...)
	for i, v := range []struct {
		nodes []int
		want  []graph.Edge
	}{
		{nil, nil}, {[]int{}, nil}, {[]int{0}, nil}, {[]int{1}, []graph.Edge{edge(1, 1, 5)}}, {[]int{1, 1, 1}, []graph.Edge{edge(1, 1, 5)}},
		{[]int{2, 1}, []graph.Edge{edge(1, 1, 5), edge(1, 2, 2), edge(2, 1, 6), edge(2, 1, 7)}}, {[]int{0, 2}, nil}, {[]int{4}, nil},
		{append(none(), 5, 6), nil}, {append(none(), 3, 5, 0, 3), []graph.Edge{edge(3, 0, 4)}}, {[]int{4, 3, 2, 1, 0}, once(l...)},
	} {
		o := g.Only(v.nodes...)
		checkGraph(t, o, 5, v.want)
		if graph.Same(o, g) != (len(v.want) == len(l)) {
			t.Errorf("%d: %v", i, o.Edges())
		}
	}
	checkGraph(t, g, 5, once(l...))
}

// P13.4: two are the same by their nodes, and their edges with their labels, alone.
func TestSame(t *testing.T) {
	var l []*graph.Graph
	for _, n := range []int{0, 1, 2, 3, 65535, 65536} {
		l = append(l, made(t, n))
	}
	for _, e := range [][]graph.Edge{{edge(0, 1, 0)}, {edge(0, 1, 1)}, {edge(1, 0, 0)}, {edge(0, 0, 0)}, {edge(1, 1, 0)}, {edge(0, 1, 0), edge(1, 0, 0)}, {edge(0, 1, 0), edge(0, 1, 1)}, {edge(0, 1, 0), edge(0, 1, 1<<32)}} {
		l = append(l, made(t, 2, e...), made(t, 3, e...))
	}
	l = append(l, nil)
	for i, a := range l {
		for j, b := range l {
			if ok := graph.Same(a, b); ok != (i == j) {
				t.Errorf("%d, %d: %v", i, j, ok)
			}
			if ok := graph.Same(a.Copy(), b); ok != (i == j) {
				t.Errorf("%d, %d: %v, of a copy", i, j, ok)
			}
		}
	}
}

// Of a nil graph.
func TestNil(t *testing.T) {
	var nil1 *graph.Graph
	for _, l := range [][]graph.Edge{nil, {}, {edge(0, 0, 0)}, {edge(-1, 5, 0), edge(0, 0, 0)}} {
		if n, e := nil1.Add(l...); n != 0 || e != api.ErrNil {
			t.Errorf("Add(%v): %d, %d", l, n, e)
		}
	}
	if nil1.Back() != nil || nil1.Only() != nil || nil1.Only(0, 1) != nil || nil1.Copy() != nil {
		t.Error("a graph comes of a nil one")
	}
	if n, m, l := nil1.Len(), nil1.Many(), nil1.Edges(); n != 0 || m != 0 || len(l) != 0 || nil1.Has(edge(0, 0, 0)) || nil1.Remove(edge(0, 0, 0)) {
		t.Errorf("%d, %d, %v", n, m, l)
	}
	for _, i := range append(none(), 0, 1) {
		checkNothing(t, nil1, i, 0)
	}
	if !graph.Same(nil1, nil) || graph.Same(nil1, made(t, 0)) || graph.Same(made(t, 0), nil1) {
		t.Error("Same")
	}
}

// A zero graph has no nodes.
func TestZero(t *testing.T) {
	var zero graph.Graph
	for i, g := range []*graph.Graph{&zero, new(graph.Graph), made(t, 0), zero.Copy(), zero.Back(), zero.Only(0)} {
		if n, e := g.Add(); n != 0 || e != api.OK {
			t.Errorf("%d: %d, %d", i, n, e)
		}
		if n, e := g.Add(edge(0, 0, 0)); n != 0 || e != api.ErrNode || g.Remove(edge(0, 0, 0)) {
			t.Errorf("%d: %d, %d", i, n, e)
		}
		checkGraph(t, g, 0, nil)
		checkOthers(t, g, 0, nil)
		if !graph.Same(g, made(t, 0)) || !graph.Same(&zero, g) || graph.Same(g, made(t, 1)) {
			t.Errorf("%d: Same", i)
		}
	}
}

// P13.2 to P13.4: all short rows of what is done with a few edges, against the words.
func TestAllShort(t *testing.T) {
	of := []graph.Edge{edge(0, 1, 0), edge(0, 1, -1), edge(1, 0, 0), edge(1, 1, 0)}
	var try func(g *graph.Graph, have []graph.Edge, left int)
	try = func(g *graph.Graph, have []graph.Edge, left int) {
		checkGraph(t, g, 2, have)
		if left == 0 {
			return
		}
		for _, e := range of {
			more := g.Copy()
			was := slices.Contains(have, e)
			if n, no := more.Add(e); (n == 0) != was || n > 1 || no != api.OK {
				t.Fatalf("Add(%v) to %v: %d, %d", e, have, n, no)
			}
			try(more, once(append(slices.Clone(have), e)...), left-1)
			less := g.Copy()
			if less.Remove(e) != was {
				t.Fatalf("Remove(%v) of %v: %v", e, have, !was)
			}
			try(less, those(have, func(o graph.Edge) bool { return o != e }), left-1)
		}
	}
	try(made(t, 2), nil, 5)
}

// P13.2 to P13.4: graphs that grow and shrink, against the words.
func TestGrown(t *testing.T) {
	most := 0
	for seed := range uint64(60) {
		n := 1 + int(seed%7)
		r := chance(seed)
		g := made(t, n)
		var have []graph.Edge
		for step := range uint64(12) {
			l := grown(n, r.IntN(20), seed*100+step)
			longer := once(append(slices.Clone(have), l...)...)
			if m, e := g.Add(l...); m != len(longer)-len(have) || e != api.OK {
				t.Fatalf("%d: Add(%v) to %v: %d, %d", seed, l, have, m, e)
			}
			most = max(most, len(longer))
			checkGraph(t, g, n, longer)
			have = nil
			for _, e := range longer {
				if r.IntN(3) > 0 {
					have = append(have, e)
				} else if !g.Remove(e) {
					t.Fatalf("%d: Remove(%v)", seed, e)
				}
			}
			checkGraph(t, g, n, have)
		}
		checkOthers(t, g, n, have)
	}
	if most < 25 {
		t.Errorf("none has more than %d", most)
	}
}

// P13.2, P13.3: as many nodes as may be, and one with edges from and to all of them, which come in a mixed order, and go.
func TestLong(t *testing.T) {
	const n, hub = graph.MaxNodes, 30000
	var l, out, in []graph.Edge
	for i := range n {
		l = append(l, edge(hub, i, -i), edge(i, hub, i))
		out, in = append(out, edge(hub, i, -i)), append(in, edge(i, hub, i))
	}
	out, in = slices.Insert(out, hub+1, edge(hub, hub, hub)), slices.Insert(in, hub, edge(hub, hub, -hub))
	g := made(t, n, mixed(1, l)...)
	if a, b := g.Out(hub), g.In(hub); !slices.Equal(a, out) || !slices.Equal(b, in) || g.Many() != 2*n || len(g.Next(hub)) != n {
		t.Fatalf("%d, %d, %d", len(a), len(b), g.Many())
	}
	all := slices.Concat(in[:hub], out, in[hub+2:])
	if !slices.Equal(g.Edges(), all) || !graph.Same(g.Back().Back(), g) {
		t.Fatalf("%d", len(g.Edges()))
	}
	for i := range n {
		if a, b := g.Between(hub, i), g.Between(i, hub); i != hub && (len(a) != 1 || a[0].Label != -i || len(b) != 1 || b[0].Label != i) {
			t.Fatalf("%d: %v, %v", i, a, b)
		}
	}
	for _, e := range mixed(2, l) {
		if e.Label%1000 != 0 && !g.Remove(e) {
			t.Fatalf("%v", e)
		}
	}
	want := those(all, func(e graph.Edge) bool { return e.Label%1000 == 0 })
	checkHas(t, g, n, want)
	checkHas(t, g.Only(hub, 1000, n), n, among(want, hub, 1000))
}

// P13.2, P13.3: very many edges between two nodes.
func TestManyLabels(t *testing.T) {
	const many = 100000
	var want []graph.Edge
	for i := range many {
		want = append(want, edge(1, 0, i-many/2))
	}
	g := made(t, 2, mixed(3, want)...)
	if !slices.Equal(g.Out(1), want) || !slices.Equal(g.In(0), want) || !slices.Equal(g.Between(1, 0), want) || !slices.Equal(g.Next(1), []int{0}) {
		t.Fatalf("%d", g.Many())
	}
	for _, e := range mixed(4, want)[:many-5] {
		if !g.Remove(e) {
			t.Fatalf("%v", e)
		}
	}
	checkGraph(t, g, 2, once(mixed(4, want)[many-5:]...))
}
