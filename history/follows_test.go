package history_test

import (
	"slices"
	"testing"

	"alibi/history"
	"alibi/pred"
	"alibi/record"
)

// P10.7: no two modifications of an object have the same version; of a transaction and an object just the last one is final.
func TestVersionsOnce(t *testing.T) {
	type of struct {
		x uint64
		v record.Version
	}
	type by struct{ t, x uint64 }
	for seed := range uint64(60) {
		h := made(t, grown(80, 1000+seed)...)
		seen, final, last := map[of]bool{}, map[by]int{}, map[by]history.Mod{}
		for _, m := range h.Mods() {
			if seen[of{m.X, m.V}] || m.V.Unborn() || m.V.W != m.T {
				t.Fatalf("%v", m)
			}
			seen[of{m.X, m.V}] = true
			last[by{m.T, m.X}] = m
			if m.Final {
				final[by{m.T, m.X}]++
			}
		}
		for b, m := range last {
			if final[b] != 1 || !m.Final {
				t.Fatalf("%v: %d", m, final[b])
			}
			if v, ok := h.Own(h.Len(), b.t, b.x); !ok || v != m.V {
				t.Fatalf("%v: %v", m, v)
			}
		}
	}
}

// P10.7: what a look names is unborn, or a modification at a position ahead of it.
func TestLooksBack(t *testing.T) {
	for seed := range uint64(60) {
		h := made(t, grown(80, 2000+seed)...)
		for _, k := range h.Looks() {
			m, ok := h.Mod(k.X, k.V)
			if ok == k.V.Unborn() || ok && m.Pos >= k.Pos {
				t.Fatalf("%v: %v, %v", k, m, ok)
			}
		}
	}
}

// P10.7: in a whole history nobody is open; but for the status, and the end, of those that were, all is as it was.
func TestWholeIsAsItWas(t *testing.T) {
	opened := 0
	for seed := range uint64(60) {
		h := made(t, grown(60, 3000+seed)...)
		w := h.Whole()
		if !slices.Equal(w.Mods(), h.Mods()) || !slices.Equal(w.Looks(), h.Looks()) || !slices.Equal(w.Objects(), h.Objects()) || !slices.Equal(w.Committed(), h.Committed()) {
			t.Fatalf("%s", telling(h.Records()))
		}
		was, is := h.Txs(), w.Txs()
		end := h.Len()
		for i, x := range was {
			if x.Status == history.Open {
				x.Status, x.End = history.Aborted, end
				end++
				opened++
			}
			if is[i] != x {
				t.Fatalf("%v, not %v", is[i], x)
			}
		}
		if len(is) != len(was) || w.Len() != end {
			t.Fatalf("%d, %d", len(is), w.Len())
		}
	}
	if opened < 60 {
		t.Errorf("%d were open", opened)
	}
}

// withRoom is the same record, with something behind its lists' lengths.
func withRoom(r record.Record) record.Record {
	r = record.Copy(r)
	r.Entries = append(r.Entries, record.Entry{X: 1, V: version(2, 3), M: true})[:len(r.Entries)]
	r.P.Parts = append(r.P.Parts, pred.Expr{Kind: 77})[:len(r.P.Parts)]
	return r
}

// roomy are the same records, each with room, and one behind them.
func roomy(l []record.Record) []record.Record {
	var given []record.Record
	for _, r := range l {
		given = append(given, withRoom(r))
	}
	return append(given, record.Record{Kind: 77})[:len(l)]
}

// P10.6: what is handed in is only read, what lies behind its lists' lengths too.
func TestOnlyRead(t *testing.T) {
	for seed := range uint64(20) {
		l := grown(40, 4000+seed)
		given := roomy(l)
		h := made(t, given...)
		h.Whole()
		h.Records()
		for i, r := range given {
			behind, part := r.Entries[:len(r.Entries)+1], r.P.Parts[:len(r.P.Parts)+1]
			if !record.Same(r, l[i]) || behind[len(r.Entries)] != (record.Entry{X: 1, V: version(2, 3), M: true}) || part[len(r.P.Parts)].Kind != 77 {
				t.Fatalf("%d: %+v", i, r)
			}
		}
		if given[:len(l)+1][len(l)].Kind != 77 {
			t.Fatal("behind the records")
		}
	}
}

// spoil changes all of a list, and what lies behind it.
func spoil[V any](l []V, v V) {
	l = l[:cap(l)]
	for i := range l {
		l[i] = v
	}
}

// spoilRecords does so with records' lists, too.
func spoilRecords(l []record.Record) {
	for _, r := range l {
		spoil(r.P.Parts, pred.Expr{Kind: 99})
		spoil(r.Entries, record.Entry{X: 12345})
	}
	spoil(l, record.Record{Kind: 99})
}

// spoilAnswers does so with all lists that a history answers.
func spoilAnswers(h *history.History) {
	spoilRecords(h.Records())
	spoil(h.Txs(), history.Tx{T: 99})
	spoil(h.Committed(), 99)
	spoil(h.Objects(), 99)
	spoil(h.Mods(), history.Mod{Pos: 99})
	spoil(h.Looks(), history.Look{Pos: 99})
	for _, x := range objects() {
		spoil(h.Of(x), history.Mod{Pos: 99})
	}
	for pos := range h.Len() {
		spoil(h.At(pos), history.Look{Pos: 99})
	}
}

// P10.6: what was handed in is not kept, and what is answered is new memory.
func TestNewMemory(t *testing.T) {
	for seed := range uint64(20) {
		l := grown(40, 5000+seed)
		given := roomy(l)
		h := made(t, given...)
		spoilRecords(given)
		checkHistory(t, h, l)
		w := h.Whole()
		spoilAnswers(h)
		checkHistory(t, h, l)
		checkHistory(t, w, wholeByWords(l))
		spoilAnswers(w)
		checkHistory(t, h, l)
		checkHistory(t, w, wholeByWords(l))
	}
}

// P10.6: no two answers share memory, nor two records of one.
func TestAnswersApart(t *testing.T) {
	for seed := range uint64(20) {
		l := grown(40, 6000+seed)
		h := made(t, l...)
		one, two := h.Records(), h.Records()
		for i := range one {
			spoil(one[i].P.Parts, pred.Expr{Kind: 99})
			spoil(one[i].Entries, record.Entry{X: 12345})
			if !slices.EqualFunc(one[i+1:], l[i+1:], record.Same) {
				t.Fatalf("%d: those behind it", i)
			}
		}
		if !slices.EqualFunc(two, l, record.Same) {
			t.Fatal("the other one")
		}
		mods, txs, looks := h.Mods(), h.Txs(), h.Looks()
		spoilAnswers(h)
		if !slices.Equal(mods, modsByWords(l, anyMod)) || !slices.Equal(txs, txsByWords(l)) || !slices.Equal(looks, looksByWords(l, anyLook)) {
			t.Fatal("other answers")
		}
	}
}

// Two histories, and two of the same records, are apart.
func TestTwoApart(t *testing.T) {
	one, two := lines(t, "begin 1; write 1 5 1; begin 2; commit 1"), lines(t, "begin 2; delete 2 5; begin 1; write 1 6 1")
	a, b, c := made(t, one...), made(t, two...), made(t, one...)
	checkHistory(t, a, one)
	checkHistory(t, b, two)
	spoilAnswers(a)
	checkHistory(t, c, one)
}
