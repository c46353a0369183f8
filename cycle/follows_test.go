package cycle_test

import (
	"slices"
	"testing"

	"alibi/api"
	"alibi/cycle"
	"alibi/graph"
)

// graphs are some by chance, of sizes up to some 50 nodes: with short closed walks, with long ones, and with none.
func graphs(t *testing.T, seed uint64) (*graph.Graph, []graph.Edge) {
	t.Helper()
	n := 1 + int(seed%50)
	l := grown(n, n*(1+int(seed%4))/2, 2000+seed)
	if seed%2 == 0 {
		l = near(n, n*(2+int(seed%7)), 1+int(seed%9), 2000+seed)
	}
	return made(t, n, l...), l
}

// distances are how many edges the shortest walk, of at least one edge, from each node to each one has; -1: there is none.
func distances(n int, l []graph.Edge) [][]int {
	d := make([][]int, n)
	for i := range d {
		d[i] = slices.Repeat([]int{-1}, n)
	}
	for _, e := range l {
		d[e.From][e.To] = 1
	}
	for over := range n {
		for from := range n {
			for to := range n {
				a, b := d[from][over], d[over][to]
				if a > 0 && b > 0 && (d[from][to] < 0 || a+b < d[from][to]) {
					d[from][to] = a + b
				}
			}
		}
	}
	return d
}

// P15.5: what Through and Shortest tell is closed, and simple; Shortest's begins at its least node; no closed walk has fewer edges.
func TestClosedAndSimple(t *testing.T) {
	with, without := 0, 0
	for seed := range uint64(200) {
		g, l := graphs(t, seed)
		d := distances(g.Len(), l)
		short, e := cycle.Shortest(g)
		for n := range g.Len() {
			w, f := cycle.Through(g, n)
			if d[n][n] < 0 {
				without++
				if len(w) != 0 || f != api.ErrWalk {
					t.Fatalf("%d: %v, %d: %v, %d", seed, l, n, w, f)
				}
				continue
			}
			with++
			if f != api.OK || len(w) != d[n][n] || w[0].From != n || !cycle.Closed(g, w...) || !cycle.Simple(w...) || !simple(w) {
				t.Fatalf("%d: %v, %d: %v, %d", seed, l, n, w, f)
			}
			if e != api.OK || len(short) > len(w) || len(short) == len(w) && short[0].From > n {
				t.Fatalf("%d: %v, %d: %v; %v, %d", seed, l, n, w, short, e)
			}
		}
		if e == api.ErrWalk && len(short) == 0 {
			continue
		}
		if w, _ := cycle.Through(g, short[0].From); !slices.Equal(w, short) || !simple(short) || slices.Min(cycle.Nodes(short...)) != short[0].From {
			t.Fatalf("%d: %v: %v, %v", seed, l, short, w)
		}
	}
	if with < 500 || without < 500 {
		t.Errorf("%d, %d", with, without)
	}
}

// P15.5: each walk from a node to another one has at least as many edges as Path tells; a part of a shortest walk is one.
func TestParts(t *testing.T) {
	long := 0
	for seed := range uint64(60) {
		g, l := graphs(t, seed)
		d := distances(g.Len(), l)
		for to := range g.Len() {
			far, _ := cycle.Far(g, to)
			for from := range g.Len() {
				want := d[from][to]
				if from == to {
					want = 0
				}
				w, e := cycle.Path(g, from, to)
				if far[from] != want || e != found(want >= 0) || len(w) != max(want, 0) || !cycle.Walk(g, w...) {
					t.Fatalf("%d: %v, %d to %d: %v, %d; %d, not %d", seed, l, from, to, w, e, far[from], want)
				}
				if len(w) > 0 && (w[0].From != from || w[len(w)-1].To != to) {
					t.Fatalf("%d: %v, %d to %d: %v", seed, l, from, to, w)
				}
				if len(w) > 2 && (from+to)%7 == 0 {
					long++
					a, b := len(w)/3, len(w)-1
					if part, _ := cycle.Path(g, w[a].From, w[b].From); !slices.Equal(part, w[a:b]) {
						t.Fatalf("%d: %v, %d to %d: %v, not in %v", seed, l, from, to, part, w)
					}
				}
			}
		}
	}
	if long < 500 {
		t.Errorf("%d", long)
	}
}

// P15.2, P15.3: what is told of a graph hangs on its edges, not on how they came; and is told alike each time.
func TestAlike(t *testing.T) {
	for seed := range uint64(60) {
		g, l := graphs(t, seed)
		o := made(t, g.Len(), append(mixed(seed, l), l...)...)
		end := g.Len() - 1
		for range 3 {
			a, _ := cycle.Shortest(g)
			b, _ := cycle.Shortest(o)
			c, _ := cycle.Through(g, end)
			d, _ := cycle.Through(o, end)
			if !slices.Equal(a, b) || !slices.Equal(c, d) {
				t.Fatalf("%d: %v, %v; %v, %v", seed, a, b, c, d)
			}
			a, _ = cycle.Path(g, 0, end)
			b, _ = cycle.Path(o, 0, end)
			e, _ := cycle.Far(g, end)
			f, _ := cycle.Far(o, end)
			if !slices.Equal(a, b) || !slices.Equal(e, f) {
				t.Fatalf("%d: %v, %v; %v, %v", seed, a, b, e, f)
			}
		}
	}
}

// spoil changes all of a list, and what lies behind it.
func spoil[V any](l []V, v V) {
	l = l[:cap(l)]
	for i := range l {
		l[i] = v
	}
}

// answers are all lists that are told of a graph, and of its last node.
func answers(g *graph.Graph) ([][]graph.Edge, [][]int) {
	end := g.Len() - 1
	a, _ := cycle.Shortest(g)
	b, _ := cycle.Through(g, end)
	c, _ := cycle.Path(g, 0, end)
	d, _ := cycle.Far(g, end)
	return [][]graph.Edge{a, b, c}, [][]int{d, cycle.Nodes(a...), cycle.Nodes(c...)}
}

// P15.4: what is answered is new memory: lists share none with the graph, and none with one another; the graph is only read.
func TestNewMemory(t *testing.T) {
	for seed := range uint64(60) {
		g, _ := graphs(t, seed)
		of := g.Copy()
		walks, numbers := answers(g)
		var copies [][]graph.Edge
		for _, w := range walks {
			copies = append(copies, slices.Clone(w))
		}
		more, others := answers(g)
		for i := range more {
			spoil(more[i], edge(7, 7, 7))
			spoil(others[i], 7777)
		}
		again, same := answers(g)
		for i := range walks {
			if !slices.Equal(walks[i], copies[i]) || !slices.Equal(again[i], copies[i]) || !slices.Equal(numbers[i], same[i]) {
				t.Fatalf("%d, %d: an answer lies in another one", seed, i)
			}
		}
		if !graph.Same(g, of) {
			t.Fatalf("%d: the graph was changed", seed)
		}
	}
}

// P15.4: what is handed in is only read, and not kept; what lies behind a row is not touched.
func TestHandedIn(t *testing.T) {
	l := row(2, 0, 1, 2, 3, 0)
	was := slices.Clone(l)
	g := made(t, 4, l...)
	for range 2 {
		n := cycle.Nodes(l[:3]...)
		if !cycle.Walk(g, l[:3]...) || !cycle.Closed(g, l[:3]...) || !cycle.Simple(l[:3]...) || !slices.Equal(n, []int{2, 0, 1}) {
			t.Fatalf("%v", n)
		}
		if cycle.Simple(l...) || !cycle.Walk(g, l[1:4]...) || !slices.Equal(cycle.Nodes(l[1:4]...), []int{0, 1, 2, 3}) || !slices.Equal(l, was) {
			t.Fatalf("%v", l)
		}
		spoil(n, 9)
	}
	nodes := cycle.Nodes(l...)
	clear(l)
	if cycle.Walk(g, l...) || !cycle.Walk(g, was...) || !slices.Equal(nodes, []int{2, 0, 1, 2, 3, 0}) {
		t.Fatal("a row was kept")
	}
	g.Add(edge(2, 1, 5))
	if w, e := cycle.Shortest(g); !slices.Equal(w, []graph.Edge{edge(1, 2, 0), edge(2, 1, 5)}) || e != api.OK {
		t.Fatalf("a graph was kept: %v, %d", w, e)
	}
}
