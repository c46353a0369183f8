package graph

import "slices"

// place is where an edge stands in the rows of both its nodes: so it is taken out of long ones without being looked for.
type place struct {
	out int
	in  int
}

// rows are the nodes' edges, each row in no order: it is put in order where it is told.
type rows [][]Edge

// outs has each edge in the row of the node that it is from.
type outs struct {
	rows
}

// ins has each edge in the row of the node that it is to.
type ins struct {
	rows
}

// add puts an edge there, and tells its place.
func (s outs) add(e Edge) int { return s.put(e.From, e) }

// add puts an edge there, and tells its place.
func (s ins) add(e Edge) int { return s.put(e.To, e) }

// put has an edge in a node's row, at last, and tells its place.
func (r rows) put(n int, e Edge) int {
	r[n] = append(r[n], e)
	return len(r[n]) - 1
}

// drop takes the edge at a place out of a node's row, and tells the one that stands there then: it was the last one.
func (r rows) drop(n, place int) Edge {
	last := len(r[n]) - 1
	e := r[n][last]
	r[n][place] = e
	r[n] = r[n][:last]
	return e
}

// told are a node's edges, in order.
func (r rows) told(n int) []Edge {
	l := slices.Clone(r[n])
	slices.SortFunc(l, Cmp)
	return l
}
