package history

import (
	"slices"

	"alibi/record"
)

// version is one of an object.
type version struct {
	x uint64
	v record.Version
}

// gathered is the history of records that are well-formed.
func gathered(l []record.Record) *History {
	h := &History{
		records:  copies(l),
		names:    map[uint64]int{},
		versions: map[version]int{},
		of:       map[uint64][]int{},
	}
	for pos, r := range h.records {
		h.take(pos, r)
	}
	for i, m := range h.mods { // which one is the last one is told only now
		h.mods[i].Final = m.V.N == h.tx(m.T).times(m.X)
	}
	h.objects = objects(h.mods, h.Looks())
	return h
}

// take gathers what a record tells of transactions and modifications.
func (h *History) take(pos int, r record.Record) {
	switch r.Kind {
	case record.Begin:
		h.begin(pos, r.T)
	case record.Write:
		h.modify(Mod{Pos: pos, T: r.T, X: r.X, Value: r.Value})
	case record.Delete:
		h.modify(Mod{Pos: pos, T: r.T, X: r.X, Dead: true})
	case record.Commit:
		h.end(pos, r.T, Committed, len(h.committed))
		h.committed = append(h.committed, r.T)
	case record.Abort:
		h.end(pos, r.T, Aborted, -1)
	}
}

// tx is the transaction of a name that has begun.
func (h *History) tx(t uint64) *transaction { return &h.txs[h.names[t]] }

// begin has a transaction, which is open as long as no end of it is told.
func (h *History) begin(pos int, t uint64) {
	h.names[t] = len(h.txs)
	h.txs = append(h.txs, transaction{Tx: Tx{T: t, Begin: pos, End: len(h.records), Status: Open, Number: -1}})
}

// end tells how a transaction ended.
func (h *History) end(pos int, t uint64, status, number int) {
	x := h.tx(t)
	x.End, x.Status, x.Number = pos, status, number
}

// modify has a modification, to which its version is yet to be given.
func (h *History) modify(m Mod) {
	m.V = record.Version{W: m.T, N: h.tx(m.T).count(m.Pos, m.X)}
	h.versions[version{m.X, m.V}] = len(h.mods)
	h.of[m.X] = append(h.of[m.X], len(h.mods))
	h.mods = append(h.mods, m)
}

// looks are those of a record at a position. (Only a Pred has entries.)
func looks(pos int, r record.Record) []Look {
	if r.Kind == record.Read {
		return []Look{{Pos: pos, T: r.T, X: r.X, V: r.V}}
	}
	var l []Look
	for place, e := range r.Entries {
		l = append(l, Look{Pos: pos, Place: place, T: r.T, X: e.X, V: e.V, Pred: true, M: e.M})
	}
	return l
}

// objects are those that are modified, or looked at.
func objects(modified []Mod, looked []Look) []uint64 {
	var l []uint64
	for _, m := range modified {
		l = append(l, m.X)
	}
	for _, k := range looked {
		l = append(l, k.X)
	}
	slices.Sort(l)
	return slices.Clone(slices.Compact(l)) // what is kept is as long as there are objects, not looks
}

// copies are the same records, in memory of their own.
func copies(l []record.Record) []record.Record {
	var c []record.Record
	for _, r := range l {
		c = append(c, record.Copy(r))
	}
	return c
}
