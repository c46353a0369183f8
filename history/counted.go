package history

import "slices"

// transaction is one, with what is counted of its objects.
type transaction struct {
	Tx
	counted
}

// counted is what is counted of the objects that a transaction modified.
type counted struct {
	at map[uint64][]int // by objects: the modifications' positions, rising
}

// count counts a modification, and tells how many of the object there are now.
func (c *counted) count(pos int, x uint64) uint64 {
	if c.at == nil { // many transactions modify nothing
		c.at = map[uint64][]int{}
	}
	c.at[x] = append(c.at[x], pos)
	return c.times(x)
}

// times is how many modifications of an object there are.
func (c *counted) times(x uint64) uint64 { return uint64(len(c.at[x])) }

// below is how many of them stand below a position.
func (c *counted) below(pos int, x uint64) uint64 {
	n, _ := slices.BinarySearch(c.at[x], pos)
	return uint64(n)
}
