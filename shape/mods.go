package shape

import (
	"alibi/intern"
	"alibi/pred"
	"alibi/record"
)

// mods are all modifications that were made.
type mods struct {
	pairs   intern.Pairs        // each of a transaction, and an object that it modified
	rows    [][]Made            // by the pairs' numbers: the versions, from the first one on
	objects map[uint64][]uint64 // by transactions: what they modified, each object once
}

// modify makes a transaction's next version of an object.
func (s *mods) modify(t, x uint64, d Made) {
	p := intern.Pair{A: t, B: x}
	n, ok := s.pairs.Find(p)
	if !ok {
		n = s.pairs.Add(p)
		s.rows = append(s.rows, nil)
		s.list(t, x)
	}
	s.rows[n] = append(s.rows[n], d)
}

// list puts an object, which is new to it, to a transaction's.
func (s *mods) list(t, x uint64) {
	if s.objects == nil { // zero ones have no map yet
		s.objects = map[uint64][]uint64{}
	}
	s.objects[t] = append(s.objects[t], x)
}

// row are a transaction's versions of an object, from the first one on.
func (s *mods) row(t, x uint64) []Made {
	n, ok := s.pairs.Find(intern.Pair{A: t, B: x})
	if !ok {
		return nil
	}
	return s.rows[n]
}

// version is what a version of an object is, and whether it was made.
func (s *mods) version(x uint64, v record.Version) (Made, bool) {
	row := s.row(v.W, x)
	if v.N == 0 || v.N > uint64(len(row)) {
		return Made{}, false
	}
	return row[v.N-1], true
}

// there tells whether a version is unborn, or was made.
func (s *mods) there(x uint64, v record.Version) bool {
	_, made := s.version(x, v)
	return made || v.Unborn()
}

// latest is the last version of an object that a transaction made, if it made one.
func (s *mods) latest(t, x uint64) (record.Version, bool) {
	n := len(s.row(t, x))
	if n == 0 {
		return record.Version{}, false
	}
	return record.Version{W: t, N: uint64(n)}, true
}

// matches tells whether a version matches a predicate at its object.
func (s *mods) matches(p pred.Expr, x uint64, v record.Version) bool {
	d, made := s.version(x, v)
	return made && !d.Dead && pred.Holds(p, x, d.Value)
}
