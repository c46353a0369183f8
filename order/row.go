package order

import (
	"cmp"
	"slices"

	"alibi/history"
	"alibi/record"
)

// standing is a version that stands in an order; of unborn its writer, and the end, tell nothing.
type standing struct {
	v      record.Version
	writer int // its number
	end    int // the position at which the writer ended
}

// versions are unborn, and the installed ones, by their writers' numbers. So the writers' ends rise, too.
type versions []standing

// row is an object's order.
type row struct {
	versions
	rising []int // the places, as the versions that stand there rise: many ask for a version's place
}

// rowOf is the row of an object's installed versions, in order.
func rowOf(l ...standing) row {
	r := row{versions: append(versions{{}}, l...)}
	for place := range r.versions {
		r.rising = append(r.rising, place)
	}
	slices.SortFunc(r.rising, func(a, b int) int { return record.Cmp(r.versions[a].v, r.versions[b].v) })
	return r
}

// place is that of a version, if it stands in the row.
func (r row) place(v record.Version) (int, bool) {
	i, ok := slices.BinarySearchFunc(r.rising, v, func(place int, v record.Version) int {
		return record.Cmp(r.versions[place].v, v)
	})
	if !ok {
		return 0, false
	}
	return r.rising[i], true
}

// installed are all but unborn.
func (l versions) installed() []standing { return l[1:] }

// last is the last place.
func (l versions) last() int { return len(l) - 1 }

// before is the last place of those whose writers ended below a position; unborn's, if there is none.
func (l versions) before(pos int) int {
	n, _ := slices.BinarySearchFunc(l.installed(), pos, func(s standing, pos int) int { return cmp.Compare(s.end, pos) })
	return n
}

// gathered are the versions of an object that are installed, in order.
func gathered(h *history.History, x uint64) []standing {
	var l []standing
	for _, m := range h.Of(x) {
		if t, ok := h.Tx(m.T); ok && m.Final && t.Status == history.Committed {
			l = append(l, standing{m.V, t.Number, t.End})
		}
	}
	slices.SortFunc(l, func(a, b standing) int { return cmp.Compare(a.writer, b.writer) })
	return l
}
