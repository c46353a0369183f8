package history_test

import (
	"math"
	"slices"
	"strings"
	"testing"

	"alibi/api"
	"alibi/history"
	"alibi/record"
)

// What the tests have of histories' words: records, and what they come to by the words of the chapter alone.

const top = uint64(math.MaxUint64)

func version(w, n uint64) record.Version { return record.Version{W: w, N: n} }

// line is the record of a text.
func line(t *testing.T, s string) record.Record {
	t.Helper()
	r, e := record.Line(s)
	if e != api.OK {
		t.Fatalf("%q: %d", s, e)
	}
	return r
}

// lines are the records of texts, with semicolons between.
func lines(t *testing.T, s string) []record.Record {
	t.Helper()
	var l []record.Record
	for _, text := range strings.Split(s, "; ") {
		l = append(l, line(t, text))
	}
	return l
}

// telling are records as lines.
func telling(l []record.Record) string {
	var s []string
	for _, r := range l {
		s = append(s, record.Text(r))
	}
	return strings.Join(s, "; ")
}

// made is the history of records, which must be well-formed.
func made(t *testing.T, l ...record.Record) *history.History {
	t.Helper()
	h, n, rule := history.New(l...)
	if h == nil || n != len(l) || rule != api.Right {
		t.Fatalf("%s: %v, %d, %d", telling(l), h, n, rule)
	}
	return h
}

// told is the history of texts.
func told(t *testing.T, s string) *history.History {
	t.Helper()
	return made(t, lines(t, s)...)
}

// place is where the first record of t of one of these kinds stands; how many there are, if there is none.
func place(l []record.Record, t uint64, kinds ...int) int {
	for pos, r := range l {
		if r.T == t && slices.Contains(kinds, r.Kind) {
			return pos
		}
	}
	return len(l)
}

// committedByWords are the names of those that have a Commit, by where that stands.
func committedByWords(l []record.Record) []uint64 {
	var names []uint64
	for _, r := range l {
		if r.Kind == record.Commit {
			names = append(names, r.T)
		}
	}
	return names
}

// txByWords is the transaction of a name, if it began.
func txByWords(l []record.Record, t uint64) (history.Tx, bool) {
	x := history.Tx{T: t, Begin: place(l, t, record.Begin), End: place(l, t, record.Commit, record.Abort)}
	if x.Begin == len(l) {
		return history.Tx{}, false
	}
	x.Number = slices.Index(committedByWords(l), t)
	switch {
	case x.End == len(l):
		x.Status = history.Open
	case l[x.End].Kind == record.Commit:
		x.Status = history.Committed
	default:
		x.Status = history.Aborted
	}
	return x, true
}

func txsByWords(l []record.Record) []history.Tx {
	var txs []history.Tx
	for _, r := range l {
		if r.Kind == record.Begin {
			x, _ := txByWords(l, r.T)
			txs = append(txs, x)
		}
	}
	return txs
}

// many is how many modifications of x by t there are.
func many(l []record.Record, t, x uint64) uint64 {
	n := uint64(0)
	for _, r := range l {
		if (r.Kind == record.Write || r.Kind == record.Delete) && r.T == t && r.X == x {
			n++
		}
	}
	return n
}

// modsByWords are the modifications that are kept.
func modsByWords(l []record.Record, kept func(history.Mod) bool) []history.Mod {
	var mods []history.Mod
	for pos, r := range l {
		if r.Kind != record.Write && r.Kind != record.Delete {
			continue
		}
		n := many(l[:pos+1], r.T, r.X)
		m := history.Mod{Pos: pos, T: r.T, X: r.X, V: version(r.T, n), Final: many(l, r.T, r.X) == n}
		if r.Kind == record.Write {
			m.Value = r.Value
		} else {
			m.Dead = true
		}
		if kept(m) {
			mods = append(mods, m)
		}
	}
	return mods
}

func anyMod(history.Mod) bool { return true }

// ownByWords is t's last version of x below a position.
func ownByWords(l []record.Record, pos int, t, x uint64) (record.Version, bool) {
	if n := many(l[:min(max(pos, 0), len(l))], t, x); n > 0 {
		return version(t, n), true
	}
	return record.Version{}, false
}

// looksByWords are the looks that are kept.
func looksByWords(l []record.Record, kept func(history.Look) bool) []history.Look {
	var looks []history.Look
	add := func(k history.Look) {
		if kept(k) {
			looks = append(looks, k)
		}
	}
	for pos, r := range l {
		if r.Kind == record.Read {
			add(history.Look{Pos: pos, T: r.T, X: r.X, V: r.V})
		}
		if r.Kind == record.Pred {
			for i, e := range r.Entries {
				add(history.Look{Pos: pos, Place: i, T: r.T, X: e.X, V: e.V, Pred: true, M: e.M})
			}
		}
	}
	return looks
}

func anyLook(history.Look) bool { return true }

func objectsByWords(l []record.Record) []uint64 {
	is := map[uint64]bool{}
	for _, r := range l {
		if slices.Contains([]int{record.Read, record.Write, record.Delete}, r.Kind) {
			is[r.X] = true
		}
		for _, e := range r.Entries {
			is[e.X] = true
		}
	}
	var objects []uint64
	for x := range is {
		objects = append(objects, x)
	}
	slices.Sort(objects)
	return objects
}

// wholeByWords are the records, and an Abort of each that is open, by the positions of their Begin.
func wholeByWords(l []record.Record) []record.Record {
	whole := slices.Clone(l)
	for _, r := range l {
		if r.Kind == record.Begin && place(l, r.T, record.Commit, record.Abort) == len(l) {
			whole = append(whole, record.Record{Kind: record.Abort, T: r.T})
		}
	}
	return whole
}

// names and objects are those that grown traces name, and some that they don't.
func names() []uint64   { return []uint64{0, 1, 2, 3, 4, 1 << 32, 1<<32 + 1, 77, top} }
func objects() []uint64 { return []uint64{0, 1, 2, 3, 1 << 32, 1<<32 + 1, 5, 77, top} }

// positions are all of a trace, and such as are none's.
func positions(l []record.Record) []int {
	all := []int{math.MinInt, -1 << 32, -2, -1, len(l), len(l) + 1, 2*len(l) + 1, 1 << 32, math.MaxInt}
	for pos := range l {
		all = append(all, pos)
	}
	return all
}

// checkHistory holds all that a history tells, but for Whole, against what its records come to by the words.
func checkHistory(t *testing.T, h *history.History, l []record.Record) {
	t.Helper()
	fail := func(what string, got any) {
		t.Helper()
		t.Fatalf("%s: %s: %v", telling(l), what, got)
	}
	if got := h.Records(); h.Len() != len(l) || !slices.EqualFunc(got, l, record.Same) {
		fail("Records", got)
	}
	if got := h.Txs(); !slices.Equal(got, txsByWords(l)) {
		fail("Txs", got)
	}
	if got := h.Committed(); !slices.Equal(got, committedByWords(l)) {
		fail("Committed", got)
	}
	if got := h.Objects(); !slices.Equal(got, objectsByWords(l)) {
		fail("Objects", got)
	}
	if got := h.Mods(); !slices.Equal(got, modsByWords(l, anyMod)) {
		fail("Mods", got)
	}
	if got := h.Looks(); !slices.Equal(got, looksByWords(l, anyLook)) {
		fail("Looks", got)
	}
	for _, pos := range positions(l) {
		if got := h.At(pos); !slices.Equal(got, looksByWords(l, func(k history.Look) bool { return k.Pos == pos })) {
			fail("At", got)
		}
	}
	for _, x := range objects() {
		if got := h.Of(x); !slices.Equal(got, modsByWords(l, func(m history.Mod) bool { return m.X == x })) {
			fail("Of", got)
		}
	}
	for _, name := range names() {
		got, ok := h.Tx(name)
		if want, is := txByWords(l, name); got != want || ok != is {
			fail("Tx", got)
		}
		checkName(t, h, l, name)
	}
}

// checkName does so with a transaction's versions.
func checkName(t *testing.T, h *history.History, l []record.Record, name uint64) {
	t.Helper()
	for _, x := range objects() {
		for _, pos := range positions(l) {
			got, ok := h.Own(pos, name, x)
			if want, is := ownByWords(l, pos, name, x); got != want || ok != is {
				t.Fatalf("%s: Own(%d, %d, %d): %v, %v", telling(l), pos, name, x, got, ok)
			}
		}
		n := many(l, name, x)
		for _, v := range []record.Version{version(name, 0), version(name, 1), version(name, 2), version(name, n), version(name, n+1), version(name, 1<<32+1), version(name, top)} {
			want := modsByWords(l, func(m history.Mod) bool { return m.X == x && m.V == v })
			got, ok := h.Mod(x, v)
			if ok != (len(want) == 1) || ok && got != want[0] || !ok && got != (history.Mod{}) {
				t.Fatalf("%s: Mod(%d, %s): %v, %v", telling(l), x, v.Text(), got, ok)
			}
		}
	}
}
