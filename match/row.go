package match

import (
	"cmp"
	"iter"
	"slices"

	"alibi/history"
	"alibi/pred"
	"alibi/record"
)

// holds tells whether a modification matches.
func holds(p pred.Expr, m history.Mod) bool { return !m.Dead && pred.Holds(p, m.X, m.Value) }

// steps are those of a row, in order.
func steps(h *history.History, p pred.Expr, x, own uint64) iter.Seq[Step] {
	return func(yield func(Step) bool) {
		if h == nil || !yield(Step{Writer: -1}) {
			return
		}
		matched := false // unborn matches nothing
		for _, i := range installed(h, x) {
			if i.T == own {
				continue
			}
			matches := holds(p, i.Mod)
			if !yield(Step{V: i.V, Writer: i.writer, Matches: matches, Changes: matches != matched}) {
				return
			}
			matched = matches
		}
	}
}

// put is a modification that is installed, with its writer's number.
type put struct {
	history.Mod
	writer int
}

// installed are an object's, in order. (Layer 11 tells the same, but of all objects at once; rows are asked of one, and often.)
func installed(h *history.History, x uint64) []put {
	var l []put
	for _, m := range h.Of(x) {
		if t, ok := h.Tx(m.T); ok && m.Final && t.Status == history.Committed {
			l = append(l, put{m, t.Number})
		}
	}
	slices.SortFunc(l, func(a, b put) int { return cmp.Compare(a.writer, b.writer) })
	return l
}

// asker is the transaction whose Pred stands at a position, if one does.
func asker(h *history.History, pos int) (uint64, bool) {
	if l := h.At(pos); len(l) > 0 {
		return l[0].T, l[0].Pred
	}
	all := h.Records() // of a Pred without entries there is no look: its record alone tells who asks
	if pos < 0 || pos >= len(all) || all[pos].Kind != record.Pred {
		return 0, false
	}
	return all[pos].T, true
}
