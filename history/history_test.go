package history_test

import (
	"slices"
	"testing"

	"alibi/api"
	"alibi/history"
	"alibi/pred"
	"alibi/record"
	"alibi/shape"
)

// The chapter's first example.
func TestExampleOfModifications(t *testing.T) {
	h := told(t, "begin 1; write 1 5 7; delete 1 5; begin 2; read 2 5 1.1; commit 1; commit 2")
	if l := h.Committed(); !slices.Equal(l, []uint64{1, 2}) {
		t.Errorf("Committed: %v", l)
	}
	mods := []history.Mod{{Pos: 1, T: 1, X: 5, V: version(1, 1), Value: 7}, {Pos: 2, T: 1, X: 5, V: version(1, 2), Dead: true, Final: true}}
	if l := h.Of(5); !slices.Equal(l, mods) || !slices.Equal(h.Mods(), mods) {
		t.Errorf("Of: %v", l)
	}
	looks := []history.Look{{Pos: 4, T: 2, X: 5, V: version(1, 1)}}
	if l := h.Looks(); !slices.Equal(l, looks) || !slices.Equal(h.At(4), looks) {
		t.Errorf("Looks: %v", l)
	}
}

// The chapter's second example.
func TestExampleOfAnOpenOne(t *testing.T) {
	h := told(t, "begin 1; write 1 5 7; begin 2; commit 2")
	if x, ok := h.Tx(1); !ok || x != (history.Tx{T: 1, Begin: 0, End: 4, Status: history.Open, Number: -1}) {
		t.Errorf("Tx(1): %v", x)
	}
	if x, ok := h.Tx(2); !ok || x != (history.Tx{T: 2, Begin: 2, End: 3, Status: history.Committed, Number: 0}) {
		t.Errorf("Tx(2): %v", x)
	}
	if n := h.Whole().Len(); n != 5 {
		t.Errorf("Whole: %d", n)
	}
}

// P10.1: of no records there is a history.
func TestNoRecords(t *testing.T) {
	checkHistory(t, made(t), nil)
	checkHistory(t, made(t, []record.Record{}...), nil)
	checkHistory(t, made(t).Whole(), nil)
	var zero history.History
	checkHistory(t, &zero, nil)
	checkHistory(t, zero.Whole(), nil)
}

// Of a nil history: nothing, false, 0; Whole nil.
func TestNilHistory(t *testing.T) {
	var none *history.History
	if none.Len() != 0 || len(none.Records()) != 0 || len(none.Txs()) != 0 || len(none.Committed()) != 0 || len(none.Objects()) != 0 || len(none.Mods()) != 0 || len(none.Looks()) != 0 || none.Whole() != nil {
		t.Error("a nil history tells something")
	}
	for _, x := range objects() {
		if l := none.Of(x); len(l) != 0 {
			t.Errorf("Of(%d): %v", x, l)
		}
		if m, ok := none.Mod(x, version(x, x)); m != (history.Mod{}) || ok {
			t.Errorf("Mod(%d): %v, %v", x, m, ok)
		}
		if m, ok := none.Mod(x, version(0, 0)); m != (history.Mod{}) || ok {
			t.Errorf("Mod(%d): %v, %v", x, m, ok)
		}
		if y, ok := none.Tx(x); y != (history.Tx{}) || ok {
			t.Errorf("Tx(%d): %v, %v", x, y, ok)
		}
		for _, pos := range positions(nil) {
			if v, ok := none.Own(pos, x, x); v != (record.Version{}) || ok {
				t.Errorf("Own(%d, %d): %v, %v", pos, x, v, ok)
			}
			if l := none.At(pos); len(l) != 0 {
				t.Errorf("At(%d): %v", pos, l)
			}
		}
	}
}

// itself is a predicate that has itself as a part.
func itself() pred.Expr {
	l := make([]pred.Expr, 1)
	l[0] = pred.Expr{Kind: pred.Not, Parts: l}
	return l[0]
}

// P10.1: what is not well-formed is refused, with the first record that offends, and its rule.
func TestRefused(t *testing.T) {
	for i, x := range []struct {
		s    string
		at   int
		rule api.Rule
	}{
		{"read 1 5 0.0", 0, api.Absent}, {"begin 0", 0, api.Zero}, {"begin 1; begin 2; begin 1", 2, api.Begun}, {"begin 1; abort 1; write 1 5 1", 2, api.Ended},
		{"begin 1; read 1 5 1.1", 1, api.NoVersion}, {"begin 1; write 1 5 2; read 1 5 0.0", 2, api.NotOwn}, {"begin 1; pred 1 all 5:0.0:0 5:0.0:0", 1, api.Rise}, {"begin 1; pred 1 all 5:1.1:1", 1, api.NoEntry},
		{"begin 1; write 1 5 2; pred 1 all 4:0.0:0", 2, api.OwnEntry}, {"begin 1; pred 1 all 4:0.0:1", 1, api.Match}, {"begin 1; commit 2; begin 1; begin 0", 1, api.Absent},
	} {
		if h, at, rule := history.New(lines(t, x.s)...); h != nil || at != x.at || rule != x.rule {
			t.Errorf("%d: %v, %d, %d", i, h, at, rule)
		}
	}
	l := lines(t, "begin 1; write 1 5 1; begin 2; read 2 5 1.1; commit 1; pred 2 all 5:1.1:1; abort 2")
	for at := range l {
		for _, r := range []record.Record{{}, {Kind: -1, T: 1}, {Kind: 8, T: 1}, {Kind: 257, T: 1}, {Kind: record.Begin, T: 1, X: 1}, {Kind: record.Begin, T: 1, P: itself()}, {Kind: record.Pred, T: 1}, {Kind: record.Pred, T: 1, P: itself()}, {Kind: record.Begin}} {
			bad := slices.Insert(slices.Clone(l), at, r)
			wantAt, want := shape.Check(bad...)
			if h, got, rule := history.New(bad...); h != nil || got != at || wantAt != at || rule != want {
				t.Errorf("%d: %v, %d, %d, not %d", at, h, got, rule, want)
			}
		}
	}
}

// P10.2: transactions that end otherwise than they began; numbers by their ends.
func TestTransactions(t *testing.T) {
	l := lines(t, "begin 30; begin 18446744073709551615; begin 10; begin 20; abort 10; begin 5; commit 20; begin 40; commit 18446744073709551615; begin 50; abort 5; commit 30; write 40 1 1")
	h := made(t, l...)
	want := []history.Tx{
		{T: 30, Begin: 0, End: 11, Status: history.Committed, Number: 2}, {T: top, Begin: 1, End: 8, Status: history.Committed, Number: 1}, {T: 10, Begin: 2, End: 4, Status: history.Aborted, Number: -1},
		{T: 20, Begin: 3, End: 6, Status: history.Committed, Number: 0}, {T: 5, Begin: 5, End: 10, Status: history.Aborted, Number: -1}, {T: 40, Begin: 7, End: 13, Status: history.Open, Number: -1}, {T: 50, Begin: 9, End: 13, Status: history.Open, Number: -1},
	}
	if got := h.Txs(); !slices.Equal(got, want) {
		t.Errorf("%v", got)
	}
	for _, x := range want {
		if got, ok := h.Tx(x.T); !ok || got != x {
			t.Errorf("Tx(%d): %v, %v", x.T, got, ok)
		}
	}
	if got := h.Committed(); !slices.Equal(got, []uint64{20, top, 30}) {
		t.Errorf("%v", got)
	}
	if got, ok := h.Tx(0); ok || got != (history.Tx{}) {
		t.Errorf("Tx(0): %v, %v", got, ok)
	}
	checkHistory(t, h, l)
}

// P10.2: objects that are only read, only written, only deleted, and only named by an entry; unborn or not.
func TestObjects(t *testing.T) {
	h := told(t, "begin 9; read 9 18446744073709551615 0.0; delete 9 8; write 9 4 0; begin 3; pred 3 all 0:0.0:0 4:9.1:1 11:0.0:0; read 3 4 9.1; abort 9; begin 77; pred 77 !all")
	if l := h.Objects(); !slices.Equal(l, []uint64{0, 4, 8, 11, top}) {
		t.Errorf("%v", l)
	}
}

// P10.3: versions are counted for each transaction and object by themselves; who aborted, or is open, has final ones, too.
func TestModifications(t *testing.T) {
	h := told(t, "begin 1; begin 2; write 1 5 3; write 2 5 4; write 1 6 7; write 2 5 0; delete 1 5; abort 2; write 1 5 18446744073709551615; delete 1 6; commit 1; begin 3; delete 3 5; write 3 5 9")
	want := []history.Mod{
		{Pos: 2, T: 1, X: 5, V: version(1, 1), Value: 3}, {Pos: 3, T: 2, X: 5, V: version(2, 1), Value: 4}, {Pos: 4, T: 1, X: 6, V: version(1, 1), Value: 7},
		{Pos: 5, T: 2, X: 5, V: version(2, 2), Final: true}, {Pos: 6, T: 1, X: 5, V: version(1, 2), Dead: true}, {Pos: 8, T: 1, X: 5, V: version(1, 3), Value: top, Final: true},
		{Pos: 9, T: 1, X: 6, V: version(1, 2), Dead: true, Final: true}, {Pos: 12, T: 3, X: 5, V: version(3, 1), Dead: true}, {Pos: 13, T: 3, X: 5, V: version(3, 2), Value: 9, Final: true},
	}
	if l := h.Mods(); !slices.Equal(l, want) {
		t.Errorf("%v", l)
	}
	if l := h.Of(6); !slices.Equal(l, []history.Mod{want[2], want[6]}) {
		t.Errorf("%v", l)
	}
	for _, m := range want {
		if got, ok := h.Mod(m.X, m.V); !ok || got != m {
			t.Errorf("Mod(%d, %s): %v, %v", m.X, m.V.Text(), got, ok)
		}
	}
	for _, none := range []struct{ x, w, n uint64 }{{5, 0, 0}, {5, 0, 1}, {5, 1, 0}, {5, 1, 4}, {6, 1, 3}, {6, 2, 1}, {1, 5, 1}, {7, 1, 1}, {5, 1, 1<<32 + 1}, {5, 4, 1}} {
		if m, ok := h.Mod(none.x, version(none.w, none.n)); ok || m != (history.Mod{}) {
			t.Errorf("Mod(%d, %d.%d): %v, %v", none.x, none.w, none.n, m, ok)
		}
	}
}

// P10.3: a transaction's own last modification below a position, and not at it.
func TestOwn(t *testing.T) {
	h := told(t, "begin 1; write 1 5 1; begin 2; write 2 5 1; delete 1 5; write 1 6 1; commit 1; read 2 6 0.0")
	for pos, n := range map[int]uint64{-1: 0, 0: 0, 1: 0, 2: 1, 3: 1, 4: 1, 5: 2, 6: 2, 7: 2, 8: 2, 9: 2, 1 << 40: 2, -1 << 63: 0, 1<<63 - 1: 2} {
		want := record.Version{}
		if n > 0 {
			want = version(1, n)
		}
		if v, ok := h.Own(pos, 1, 5); v != want || ok != (n > 0) {
			t.Errorf("%d: %v, %v", pos, v, ok)
		}
	}
	for _, none := range [][2]uint64{{2, 6}, {1, 7}, {0, 0}, {0, 5}, {3, 5}, {5, 1}, {top, top}} {
		if v, ok := h.Own(8, none[0], none[1]); ok || v != (record.Version{}) {
			t.Errorf("Own(8, %d, %d): %v, %v", none[0], none[1], v, ok)
		}
	}
}

// P10.4: looks of all transactions, by positions and places.
func TestLooks(t *testing.T) {
	h := told(t, "begin 1; write 1 5 7; begin 2; pred 2 v<=7 4:0.0:0 5:1.1:1 6:0.0:0; read 2 5 1.1; pred 1 all 5:1.1:1; abort 1; pred 2 all; read 2 9 0.0")
	want := []history.Look{
		{Pos: 3, Place: 0, T: 2, X: 4, Pred: true}, {Pos: 3, Place: 1, T: 2, X: 5, V: version(1, 1), Pred: true, M: true}, {Pos: 3, Place: 2, T: 2, X: 6, Pred: true},
		{Pos: 4, T: 2, X: 5, V: version(1, 1)}, {Pos: 5, T: 1, X: 5, V: version(1, 1), Pred: true, M: true}, {Pos: 8, T: 2, X: 9},
	}
	if l := h.Looks(); !slices.Equal(l, want) {
		t.Errorf("%v", l)
	}
	for pos, l := range map[int][]history.Look{3: want[:3], 4: want[3:4], 5: want[4:5], 8: want[5:]} {
		if got := h.At(pos); !slices.Equal(got, l) {
			t.Errorf("At(%d): %v", pos, got)
		}
	}
	for _, pos := range []int{-1 << 63, -1, 0, 1, 2, 6, 7, 9, 10, 1 << 32, 1<<63 - 1} {
		if l := h.At(pos); len(l) != 0 {
			t.Errorf("At(%d): %v", pos, l)
		}
	}
}

// P10.5: those that are open are aborted at last, by where they began, not by their names, nor by what they did.
func TestWhole(t *testing.T) {
	l := lines(t, "begin 9; begin 2; begin 30; begin 4; begin 1; commit 4; write 1 5 1; write 2 5 1; abort 30; read 9 5 2.1")
	want := append(slices.Clone(l), lines(t, "abort 9; abort 2; abort 1")...)
	h := made(t, l...)
	checkHistory(t, h.Whole(), want)
	checkHistory(t, h, l)
	checkHistory(t, h.Whole().Whole(), want)
}

// P10.1 to P10.5: all short traces of a few records, against the words.
func TestAllShort(t *testing.T) {
	of := lines(t, "begin 1; begin 2; write 1 5 1; write 2 5 2; delete 1 5; write 1 3 4; commit 1; abort 2; commit 2; read 2 5 1.1; read 1 5 1.2; read 2 3 0.0; pred 1 all 5:1.1:1; pred 2 v<=1 3:1.1:0 5:2.1:0")
	found := 0
	var try func(l []record.Record)
	try = func(l []record.Record) {
		for _, r := range of {
			longer := append(slices.Clone(l), r)
			at, rule := shape.Check(longer...)
			if h, n, got := history.New(longer...); n != at || got != rule || (h == nil) != (rule != api.Right) {
				t.Fatalf("%s: %v, %d, %d", telling(longer), h, n, got)
			}
			if rule != api.Right {
				continue
			}
			found++
			checkShort(t, longer)
			if len(longer) < 6 {
				try(longer)
			}
		}
	}
	try(nil)
	if found < 10000 {
		t.Errorf("%d", found)
	}
}

// checkShort does not ask for what no short trace has.
func checkShort(t *testing.T, l []record.Record) {
	t.Helper()
	h := made(t, l...)
	if !slices.Equal(h.Txs(), txsByWords(l)) || !slices.Equal(h.Committed(), committedByWords(l)) || !slices.Equal(h.Objects(), objectsByWords(l)) {
		t.Fatalf("%s: %v, %v, %v", telling(l), h.Txs(), h.Committed(), h.Objects())
	}
	if !slices.Equal(h.Mods(), modsByWords(l, anyMod)) || !slices.Equal(h.Looks(), looksByWords(l, anyLook)) {
		t.Fatalf("%s: %v, %v", telling(l), h.Mods(), h.Looks())
	}
	if got := h.Whole().Records(); !slices.EqualFunc(got, wholeByWords(l), record.Same) {
		t.Fatalf("%s: %s", telling(l), telling(got))
	}
}

// P10.1 to P10.5: grown traces against the words; all of them, and the whole ones.
func TestGrown(t *testing.T) {
	for seed := range uint64(40) {
		l := grown(10+int(seed), seed)
		h := made(t, l...)
		checkHistory(t, h, l)
		checkHistory(t, h.Whole(), wholeByWords(l))
	}
}

// A trace as long as may be: one that modifies an object again and again, many that do so once, and a Pred that names all.
func TestLong(t *testing.T) {
	const times, others = 20000, 15000
	l := []record.Record{{Kind: record.Begin, T: top}}
	for i := range uint64(times) {
		l = append(l, record.Record{Kind: record.Write, T: top, X: 7, Value: i})
	}
	ask := record.Record{Kind: record.Pred, T: top, P: pred.Expr{Kind: pred.All}, Entries: []record.Entry{{X: 7, V: version(top, times), M: true}}}
	for i := range uint64(others) {
		l = append(l, record.Record{Kind: record.Begin, T: 1 + i}, record.Record{Kind: record.Write, T: 1 + i, X: 100 + i}, record.Record{Kind: record.Commit, T: 1 + i})
		ask.Entries = append(ask.Entries, record.Entry{X: 100 + i, V: version(1+i, 1), M: true})
	}
	l = append(l, ask)
	h := made(t, l...)
	if len(h.Committed()) != others || len(h.Objects()) != others+1 || len(h.Mods()) != times+others || len(h.Looks()) != others+1 || h.Whole().Len() != len(l)+1 {
		t.Errorf("%d, %d, %d, %d", len(h.Committed()), len(h.Objects()), len(h.Mods()), len(h.Looks()))
	}
	for i := range uint64(times) {
		m, ok := h.Mod(7, version(top, 1+i))
		if !ok || m.Value != i || m.Pos != 1+int(i) || m.Final != (i == times-1) {
			t.Fatalf("%d: %v, %v", i, m, ok)
		}
		if v, _ := h.Own(1+int(i), top, 7); v.N != i {
			t.Fatalf("%d: %v", i, v)
		}
	}
	for i := range uint64(others) {
		m := h.Of(100 + i)
		if x, ok := h.Tx(1 + i); len(m) != 1 || !m[0].Final || m[0].V != version(1+i, 1) || !ok || x.Number != int(i) {
			t.Fatalf("%d: %v, %v", i, m, x)
		}
	}
}
