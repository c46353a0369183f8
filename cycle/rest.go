package cycle

import "alibi/graph"

// rest is what is left of a graph, when nodes are taken away: nodes that have edges both to them and from them, as no closed walk goes through any other one.
type rest struct {
	*searcher
	behind [][]int // of each node those to which edges from it are
	in     []int   // of each node from how many that are left edges to it are
	out    []int   // and to how many edges from it are
}

// restOf is the rest of a graph of which no node is taken away by choice.
func restOf(g *graph.Graph) *rest {
	r := &rest{searcher: over(g)}
	for n := range g.Len() {
		r.behind = append(r.behind, g.Next(n))
		r.in, r.out = append(r.in, len(r.ahead[n])), append(r.out, len(r.behind[n]))
	}
	for n := range g.Len() {
		if r.in[n] == 0 || r.out[n] == 0 {
			r.take(n)
		}
	}
	return r
}

// take takes a node away, and then those that have no edges left to them, or from them.
func (r *rest) take(n int) {
	l := []int{n}
	for len(l) > 0 {
		last := len(l) - 1
		n, l = l[last], l[:last]
		if r.gone[n] {
			continue
		}
		r.gone[n] = true
		l = append(l, lost(r.in, r.behind[n])...)
		l = append(l, lost(r.out, r.ahead[n])...)
	}
}

// lost counts of each of these nodes one less, and tells those of which none is left.
func lost(many, nodes []int) []int {
	var l []int
	for _, n := range nodes {
		many[n]--
		if many[n] == 0 {
			l = append(l, n)
		}
	}
	return l
}
