package cycle

import (
	"alibi/api"
	"alibi/graph"
)

// nobody is no node: a look that starts there goes on until all ways are found.
const nobody = -1

// searcher looks for the shortest ways to a node, from that one on; so it has the graph turned about.
type searcher struct {
	*graph.Graph
	given *graph.Graph
	ahead [][]int // of each node those from which edges to it are: kept, as a graph puts its answer in order each time that it is asked
	gone  []bool  // of each node whether it is taken away: no way goes through it
	far   []int   // of each node how many edges the shortest way from it has; -1: none was found
	met   []int   // the nodes from which one was found, the nearest ones first
}

// over is a searcher in a graph.
func over(g *graph.Graph) *searcher {
	s := &searcher{Graph: g.Back(), given: g, gone: make([]bool, g.Len())}
	for n := range s.Len() {
		s.ahead = append(s.ahead, s.Next(n))
		s.far = append(s.far, -1)
	}
	return s
}

// look tells how many edges the shortest walk from a node to another one, or back to itself, has, of those that have at least one and fewer than below; 0: there is none. It ends there: of nodes that are farther away it may know nothing.
func (s *searcher) look(from, to, below int) int {
	s.forget()
	s.meet(to, 0)
	many := 0
search:
	for i := 0; i < len(s.met); i++ {
		n := s.met[i]
		for _, m := range s.ahead[n] {
			switch way := s.far[n] + 1; {
			case way >= below:
				break search
			case m == from:
				many = way
				break search
			case s.far[m] < 0 && !s.gone[m]:
				s.meet(m, way)
			}
		}
	}
	return many
}

// forget has what was found no more.
func (s *searcher) forget() {
	for _, n := range s.met {
		s.far[n] = -1
	}
	s.met = s.met[:0]
}

// meet tells of a node how far it is.
func (s *searcher) meet(n, far int) {
	s.far[n] = far
	s.met = append(s.met, n)
}

// walk is the least walk from a node that has as many edges as the last look told.
func (s *searcher) walk(n, many int) []graph.Edge {
	var l []graph.Edge
	for left := many - 1; left >= 0; left-- {
		for _, e := range s.given.Out(n) { // in order: the first one of those that come nearer is to the least node, with the least label
			if s.far[e.To] == left {
				l, n = append(l, e), e.To
				break
			}
		}
	}
	return l
}

// way is the least one of the shortest walks from a node to another one, or back to itself, that have at least one edge.
func (s *searcher) way(from, to int) ([]graph.Edge, api.Errno) {
	many := s.look(from, to, s.Len()+1)
	if many == 0 {
		return nil, api.ErrWalk
	}
	return s.walk(from, many), api.OK
}
