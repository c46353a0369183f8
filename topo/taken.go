package topo

import (
	"container/heap"

	"alibi/api"
	"alibi/graph"
)

// node is one that may be taken away, and in which round it is: if they are taken by rounds; else that has no meaning.
type node struct {
	number int
	round  int
}

// rule tells which one of two nodes is taken first.
type rule interface {
	ahead(a, b node) bool
}

// byNumber takes the lowest number first, whatever its round.
type byNumber struct{}

// byRound takes the lowest round first, and of its nodes the lowest number.
type byRound struct{}

func (byNumber) ahead(a, b node) bool { return a.number < b.number }

func (byRound) ahead(a, b node) bool {
	return a.round < b.round || a.round == b.round && a.number < b.number
}

// pile is a heap of the nodes that may be taken, by the calls that the library asks of one.
type pile struct {
	rule
	nodes []node
}

// Len: heap.Interface.
func (p *pile) Len() int { return len(p.nodes) }

// Less: heap.Interface.
func (p *pile) Less(i, j int) bool { return p.ahead(p.nodes[i], p.nodes[j]) }

// Swap: heap.Interface.
func (p *pile) Swap(i, j int) { p.nodes[i], p.nodes[j] = p.nodes[j], p.nodes[i] }

// Push: heap.Interface.
func (p *pile) Push(n any) { p.nodes = append(p.nodes, n.(node)) }

// Pop: heap.Interface.
func (p *pile) Pop() any {
	last := len(p.nodes) - 1
	n := p.nodes[last]
	p.nodes = p.nodes[:last]
	return n
}

// sides are the nodes to which edges of each one are, and from how many nodes edges to each one are. They are kept while nodes are taken: a graph puts its answer in order each time that it is asked.
func sides(g *graph.Graph) ([][]int, []int) {
	next, from := make([][]int, g.Len()), make([]int, g.Len())
	for n := range next {
		next[n] = g.Next(n)
		for _, to := range next[n] {
			from[to]++
		}
	}
	return next, from
}

// taken are the nodes that can be taken away, one by one, as the rule has them. (Of a nil graph: none.)
func taken(g *graph.Graph, r rule) []node {
	next, from := sides(g)
	p := &pile{rule: r}
	for n, many := range from {
		if many == 0 {
			heap.Push(p, node{number: n})
		}
	}
	var l []node
	for p.Len() > 0 {
		n := heap.Pop(p).(node)
		l = append(l, n)
		for _, to := range next[n.number] {
			from[to]--
			if from[to] == 0 { // by rounds, n is of the last one of those that have an edge to it, as it is taken last
				heap.Push(p, node{to, n.round + 1})
			}
		}
	}
	return l
}

// all are all nodes of a graph, as they are taken away; if they can be.
func all(g *graph.Graph, r rule) ([]node, api.Errno) {
	if g == nil {
		return nil, api.ErrNil
	}
	l := taken(g, r)
	if len(l) < g.Len() {
		return nil, api.ErrCycle
	}
	return l, api.OK
}

// numbers are those of nodes.
func numbers(l ...node) []int {
	var m []int
	for _, n := range l {
		m = append(m, n.number)
	}
	return m
}
