package topo_test

import (
	"math"
	"math/rand/v2"
	"slices"
	"testing"

	"alibi/api"
	"alibi/graph"
	"alibi/topo"
)

// What the tests have of orders' words: what is to be told of a graph's edges, by the words of the chapter alone.

// edge is one.
func edge(from, to, label int) graph.Edge { return graph.Edge{From: from, To: to, Label: label} }

// pairs are edges, from and to by turns, with a label each.
func pairs(nodes ...int) []graph.Edge {
	var l []graph.Edge
	for i := 1; i < len(nodes); i += 2 {
		l = append(l, edge(nodes[i-1], nodes[i], i))
	}
	return l
}

// made is a graph of so many nodes, with these edges.
func made(t *testing.T, n int, l ...graph.Edge) *graph.Graph {
	t.Helper()
	g, e := graph.New(n)
	if g == nil || e != api.OK {
		t.Fatalf("New(%d): %d", n, e)
	}
	if _, e := g.Add(l...); e != api.OK {
		t.Fatalf("Add(%v) of %d: %d", l, n, e)
	}
	return g
}

// order tells whether each number below n stands once in a row.
func order(n int, row []int) bool {
	for i := range n {
		times := 0
		for _, have := range row {
			if have == i {
				times++
			}
		}
		if times != 1 {
			return false
		}
	}
	return len(row) == n
}

// respects tells whether each edge's From stands ahead of its To, in an order.
func respects(l []graph.Edge, row []int) bool {
	for _, e := range l {
		if slices.Index(row, e.From) >= slices.Index(row, e.To) {
			return false
		}
	}
	return true
}

// orders are all rows of the numbers below n, each once; by their numbers, from the left.
func orders(n int) [][]int {
	l := [][]int{nil}
	for range n {
		var longer [][]int
		for _, row := range l {
			for i := range n {
				if !slices.Contains(row, i) {
					longer = append(longer, append(slices.Clone(row), i))
				}
			}
		}
		l = longer
	}
	return l
}

// first is the first one of these orders that respects the edges, and how many do.
func first(of [][]int, l []graph.Edge) ([]int, int) {
	var one []int
	many := 0
	for _, row := range of {
		if respects(l, row) {
			if many == 0 {
				one = row
			}
			many++
		}
	}
	return one, many
}

// away are the nodes that are taken away, round by round, and those that stay.
func away(n int, l []graph.Edge) (rounds [][]int, rest []int) {
	for i := range n {
		rest = append(rest, i)
	}
	for {
		var gone, stay []int
		for _, i := range rest {
			if slices.ContainsFunc(l, func(e graph.Edge) bool { return e.To == i && slices.Contains(rest, e.From) }) {
				stay = append(stay, i)
			} else {
				gone = append(gone, i)
			}
		}
		if len(gone) == 0 {
			return rounds, rest
		}
		rounds, rest = append(rounds, gone), stay
	}
}

// longest is how many edges the longest row of edges from a node has; where none are a closed walk.
func longest(l []graph.Edge, from int) int {
	most := 0
	for _, e := range l {
		if e.From == from {
			most = max(most, 1+longest(l, e.To))
		}
	}
	return most
}

// comesBack tells whether edges are a closed walk: one of a row of as many edges as there are nodes comes to a node twice.
func comesBack(n int, l []graph.Edge) bool {
	ends := make([]bool, n) // where rows of so many edges end
	for i := range ends {
		ends[i] = true
	}
	for range n {
		next := make([]bool, n)
		for _, e := range l {
			if ends[e.From] {
				next[e.To] = true
			}
		}
		ends = next
	}
	return slices.Contains(ends, true)
}

// checkAway asks for what is taken away.
func checkAway(t *testing.T, g *graph.Graph, l []graph.Edge) {
	t.Helper()
	rounds, rest := away(g.Len(), l)
	if have := topo.Rounds(g); !slices.EqualFunc(have, rounds, slices.Equal) {
		t.Fatalf("Rounds of %d, %v: %v, not %v", g.Len(), l, have, rounds)
	}
	if have := topo.Rest(g); !slices.Equal(have, rest) {
		t.Fatalf("Rest of %d, %v: %v, not %v", g.Len(), l, have, rest)
	}
}

// checkOrders asks for what is told of orders, of which all are handed in.
func checkOrders(t *testing.T, g *graph.Graph, l []graph.Edge, of [][]int) {
	t.Helper()
	want, many := first(of, l)
	depth, e := 0, api.ErrCycle
	if many > 0 {
		e = api.OK
		for i := range g.Len() {
			depth = max(depth, longest(l, i))
		}
	}
	if row, no := topo.Sort(g); !slices.Equal(row, want) || no != e {
		t.Fatalf("Sort of %d, %v: %v, %d; not %v, %d", g.Len(), l, row, no, want, e)
	}
	if d, no := topo.Depth(g); d != depth || no != e {
		t.Fatalf("Depth of %d, %v: %d, %d; not %d, %d", g.Len(), l, d, no, depth, e)
	}
	if ok := topo.Only(g); ok != (many == 1) {
		t.Fatalf("Only of %d, %v: %v, but there are %d", g.Len(), l, ok, many)
	}
	for _, row := range of {
		if ok := topo.Respects(g, row...); ok != respects(l, row) {
			t.Fatalf("Respects of %d, %v: %v: %v", g.Len(), l, row, ok)
		}
	}
}

// chance is a row of numbers that come by chance; the same ones each time.
func chance(seed uint64) *rand.Rand { return rand.New(rand.NewPCG(14, seed)) }

// labels are such at which something might turn.
func labels() []int { return []int{math.MinInt, -1, 0, 0, 0, 1, 65536, math.MaxInt} }

// grown are so many edges between n nodes, some of them twice, some next to one with another label; the same ones each time.
func grown(n, many int, seed uint64) []graph.Edge {
	r := chance(seed)
	var l []graph.Edge
	for range many {
		l = append(l, edge(r.IntN(n), r.IntN(n), labels()[r.IntN(len(labels()))]))
	}
	return l
}

// forward are the same edges, but those from a node to itself, turned so that all go forward in an order that comes by chance.
func forward(n int, seed uint64, l []graph.Edge) []graph.Edge {
	place := chance(seed).Perm(n)
	var have []graph.Edge
	for _, e := range l {
		if place[e.From] > place[e.To] {
			e.From, e.To = e.To, e.From
		}
		if e.From != e.To {
			have = append(have, e)
		}
	}
	return have
}

// mixed are the same edges in another order.
func mixed(seed uint64, l []graph.Edge) []graph.Edge {
	m := slices.Clone(l)
	chance(seed).Shuffle(len(m), func(i, j int) { m[i], m[j] = m[j], m[i] })
	return m
}
