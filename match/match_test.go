package match_test

import (
	"slices"
	"testing"

	"alibi/api"
	"alibi/history"
	"alibi/match"
	"alibi/order"
	"alibi/pred"
	"alibi/record"
	"alibi/shape"
)

// step is one of a row, of a writer's first modification: what it does is told by m (matches) and c (changes).
func step(w uint64, writer int, does string) match.Step {
	s := match.Step{V: version(w, 1), Writer: writer}
	for _, r := range does {
		s.Matches, s.Changes = s.Matches || r == 'm', s.Changes || r == 'c'
	}
	return s
}

// unborn is the first one of each row.
func unborn() match.Step { return match.Step{Writer: -1} }

// checkSteps holds steps against those that are wanted.
func checkSteps(t *testing.T, got []match.Step, want ...match.Step) {
	t.Helper()
	if !slices.Equal(got, want) {
		t.Errorf("%v, not %v", got, want)
	}
}

const three = "begin 1; begin 2; begin 3; write 1 5 3; write 2 5 9; write 3 5 4; commit 1; commit 2; commit 3"

// The chapter's examples.
func TestExamples(t *testing.T) {
	h, p := told(t, three), asking(t, "v<=5")
	checkSteps(t, match.Row(h, p, 5, 0), unborn(), step(1, 0, "mc"), step(2, 1, "c"), step(3, 2, "mc"))
	checkSteps(t, match.Row(h, p, 5, 2), unborn(), step(1, 0, "mc"), step(3, 2, "m"))
	ahead, behind, ok := match.Split(h, p, 5, 0, version(2, 1))
	checkSteps(t, ahead, step(1, 0, "mc"), step(2, 1, "c"))
	checkSteps(t, behind, step(3, 2, "mc"))
	if !ok {
		t.Error("Split: false")
	}
}

// checkHolds holds what matches against what is wanted.
func checkHolds(t *testing.T, h *history.History, p pred.Expr, x uint64, want map[record.Version]bool) {
	t.Helper()
	for v, is := range want {
		if match.Holds(h, p, x, v) != is {
			t.Errorf("%s at %d: %s: not %v", pred.Text(p), x, v.Text(), is)
		}
	}
}

// P12.1: versions match whatever became of their writers, whether they are final or not; but neither a dead one, nor unborn, nor one that is none.
func TestHolds(t *testing.T) {
	h := told(t, "begin 1; begin 2; begin 3; begin 4; write 1 5 3; delete 1 5; write 1 5 4; write 1 5 9; write 2 5 1; write 3 5 2; delete 4 5; write 1 6 3; commit 1; commit 4; abort 2")
	checkHolds(t, h, asking(t, "v<=5"), 5, map[record.Version]bool{
		version(1, 1): true, version(1, 2): false, version(1, 3): true, version(1, 4): false, version(2, 1): true, version(3, 1): true, version(4, 1): false,
		version(0, 0): false, version(0, 1): false, version(1, 0): false, version(1, 5): false, version(2, 2): false, version(9, 1): false, version(top, top): false, version(1<<32+1, 1): false, version(1, 1<<32+1): false,
	})
	checkHolds(t, h, asking(t, "all"), 5, map[record.Version]bool{{}: false, version(1, 2): false, version(1, 4): true, version(4, 1): false, version(1, 5): false})
	checkHolds(t, h, asking(t, "!v<=5"), 5, map[record.Version]bool{{}: false, version(1, 2): false, version(1, 1): false, version(1, 4): true, version(4, 1): false, version(7, 7): false})
	checkHolds(t, h, asking(t, "all"), 6, map[record.Version]bool{{}: false, version(1, 1): true, version(1, 2): false, version(2, 1): false})
	checkHolds(t, h, asking(t, "all"), 7, map[record.Version]bool{{}: false, version(1, 1): false})
}

// P12.1: what is asked of the object, too.
func TestHoldsOfObjects(t *testing.T) {
	h := told(t, "begin 1; write 1 5 30; write 1 18446744073709551615 30; write 1 0 18446744073709551615; commit 1")
	one := version(1, 1)
	for s, want := range map[string][3]bool{"x<=5": {true, true, false}, "!x<=5": {false, false, true}, "&(x<=5,v<=30)": {false, true, false}, "v<=18446744073709551614": {false, true, true}, "|()": {}} {
		for i, x := range []uint64{0, 5, top} {
			checkHolds(t, h, asking(t, s), x, map[record.Version]bool{one: want[i]})
			if l := match.Row(h, asking(t, s), x, 0); len(l) != 2 || l[1].Matches != want[i] || l[1].Changes != want[i] {
				t.Errorf("%s: %d: %v", s, x, l)
			}
		}
	}
}

// P12.1: a predicate that is not right matches nothing, and nothing changes that.
func TestNotRight(t *testing.T) {
	h := told(t, three)
	self := pred.Expr{Kind: pred.Not, Parts: make([]pred.Expr, 1)}
	self.Parts[0] = self // it has itself as a part
	for _, p := range append(predicates()[10:], self) {
		if pred.Right(p) {
			t.Fatalf("%+v", p.Kind)
		}
		checkHolds(t, h, p, 5, map[record.Version]bool{{}: false, version(1, 1): false})
		checkSteps(t, match.Row(h, p, 5, 0), unborn(), step(1, 0, ""), step(2, 1, ""), step(3, 2, ""))
		a, b, ok := match.Split(h, p, 5, 0, version(2, 1))
		if len(a) != 0 || len(b) != 0 || !ok {
			t.Errorf("%v, %v, %v", a, b, ok)
		}
	}
}

// P12.1: installed ones alone stand in a row, by their writers' ends; numbers of those that did not modify the object are left out.
func TestRow(t *testing.T) {
	h := told(t, "begin 30; begin 7; begin 18446744073709551615; begin 2; begin 50; begin 4; write 30 1 8; write 7 1 1; commit 50; write 4 1 1; write 2 1 1; write 18446744073709551615 1 1; commit 18446744073709551615; abort 4; delete 30 1; commit 2; begin 5; commit 5; commit 30; write 7 1 2; write 7 1 3; commit 7; begin 8; write 8 1 1")
	want := []match.Step{unborn(), step(top, 1, "mc"), step(2, 2, "m"), {V: version(30, 2), Writer: 4, Changes: true}, {V: version(7, 3), Writer: 5, Matches: true, Changes: true}}
	for _, own := range []uint64{0, 4, 5, 8, 9, 50, 1 << 32, 1<<32 + 2, top - 1} { // none of these has installed one
		checkSteps(t, match.Row(h, asking(t, "v<=5"), 1, own), want...)
	}
	checkSteps(t, match.Row(h, asking(t, "v<=2"), 1, 0), want[0], want[1], want[2], want[3], match.Step{V: version(7, 3), Writer: 5})
	for _, x := range []uint64{0, 2, 5, 1<<32 + 1, top} {
		checkSteps(t, match.Row(h, asking(t, "all"), x, 0), unborn())
	}
}

// P12.1: what a step changes is told by what stands ahead of it once own is left out.
func TestOwnLeftOut(t *testing.T) {
	h, p := told(t, three), asking(t, "v<=5")
	checkSteps(t, match.Row(h, p, 5, 1), unborn(), step(2, 1, ""), step(3, 2, "mc"))
	checkSteps(t, match.Row(h, p, 5, 3), unborn(), step(1, 0, "mc"), step(2, 1, "c"))
	h = told(t, "begin 1; delete 1 5; commit 1; begin 2; write 2 5 1; commit 2; begin 3; delete 3 5; commit 3; begin 4; write 4 5 9; commit 4; begin 5; write 5 5 2; commit 5")
	checkSteps(t, match.Row(h, p, 5, 0), unborn(), step(1, 0, ""), step(2, 1, "mc"), step(3, 2, "c"), step(4, 3, ""), step(5, 4, "mc"))
	checkSteps(t, match.Row(h, p, 5, 2), unborn(), step(1, 0, ""), step(3, 2, ""), step(4, 3, ""), step(5, 4, "mc"))
	checkSteps(t, match.Row(h, p, 5, 3), unborn(), step(1, 0, ""), step(2, 1, "mc"), step(4, 3, "c"), step(5, 4, "mc"))
	checkSteps(t, match.Row(h, p, 5, 4), unborn(), step(1, 0, ""), step(2, 1, "mc"), step(3, 2, "c"), step(5, 4, "mc"))
	h = told(t, "begin 1; write 1 5 1; commit 1")
	checkSteps(t, match.Row(h, p, 5, 1), unborn())
}

// P12.1: by what the steps say of themselves, in the order in which they are told.
func TestChanges(t *testing.T) {
	checkSteps(t, match.Changes())
	checkSteps(t, match.Changes([]match.Step{}...))
	checkSteps(t, match.Changes(unborn(), step(1, 0, "m"), step(2, 1, "")))
	strange := match.Step{Writer: -1, Changes: true}
	all := []match.Step{step(3, 9, "c"), unborn(), step(1, 0, "mc"), step(1, 0, "mc"), step(2, 1, "m"), strange, step(1, -7, "c"), step(4, 1, "")}
	checkSteps(t, match.Changes(all...), all[0], all[2], all[3], strange, all[6])
}

// P12.2: at each version of a row; one that is not in it tells nothing.
func TestSplit(t *testing.T) {
	h, p := told(t, "begin 1; begin 2; begin 3; begin 4; begin 6; write 1 5 8; write 1 5 3; write 2 5 4; delete 3 5; write 4 5 1; write 6 5 5; commit 1; commit 2; abort 4; commit 3"), asking(t, "v<=5")
	one, two, del := match.Step{V: version(1, 2), Matches: true, Changes: true}, step(2, 1, "m"), step(3, 2, "c")
	checkSteps(t, match.Row(h, p, 5, 0), unborn(), one, two, del)
	for v, n := range map[record.Version]int{{}: 0, version(1, 2): 1, version(2, 1): 1, version(3, 1): 2} {
		ahead, behind, ok := match.Split(h, p, 5, 0, v)
		checkSteps(t, ahead, []match.Step{one, del}[:n]...)
		checkSteps(t, behind, []match.Step{one, del}[n:]...)
		if !ok {
			t.Errorf("%s: false", v.Text())
		}
	}
	ahead, behind, ok := match.Split(h, p, 5, 1, version(2, 1))
	checkSteps(t, ahead, step(2, 1, "mc"))
	checkSteps(t, behind, del)
	if !ok {
		t.Error("without 1: false")
	}
	checkNoSplit(t, h, p, 5, 1, version(1, 2))
	checkNoSplit(t, h, p, 5, 3, version(3, 1))
	for _, v := range []record.Version{version(1, 1), version(4, 1), version(6, 1), version(1, 3), version(1, 0), version(0, 2), version(0, 1), version(9, 1), version(1<<32+1, 2), version(top, top)} {
		checkNoSplit(t, h, p, 5, 0, v)
	}
	checkNoSplit(t, h, p, 6, 0, version(1, 2))
	if a, b, ok := match.Split(h, p, 6, 0, version(0, 0)); len(a) != 0 || len(b) != 0 || !ok {
		t.Errorf("unborn alone: %v, %v, %v", a, b, ok)
	}
}

// checkNoSplit tells that a version is not in a row.
func checkNoSplit(t *testing.T, h *history.History, p pred.Expr, x, own uint64, v record.Version) {
	t.Helper()
	if a, b, ok := match.Split(h, p, x, own, v); len(a) != 0 || len(b) != 0 || ok {
		t.Errorf("%s at %d, without %d: %v, %v, %v", v.Text(), x, own, a, b, ok)
	}
}

// P12.3: of each object of the history, also of those that are modified, or read, behind the Pred, or by its own transaction; of a Pred without entries, too.
func TestSet(t *testing.T) {
	h := told(t, "begin 1; write 1 9 7; begin 2; read 2 4 0.0; pred 2 v<=5; commit 1; write 2 7 3; pred 2 v<=5 7:2.1:1 9:1.1:0 18446744073709551615:0.0:0; abort 2; begin 3; delete 3 0; pred 3 !all 0:3.1:0 4:0.0:0 7:2.1:0 9:0.0:0 18446744073709551615:0.0:0")
	none := func(pos int, t, x uint64) history.Look {
		return history.Look{Pos: pos, Place: -1, T: t, X: x, Pred: true}
	}
	entry := func(pos, place int, t, x uint64, v record.Version, m bool) history.Look {
		return history.Look{Pos: pos, Place: place, T: t, X: x, V: v, Pred: true, M: m}
	}
	for pos, want := range map[int][]history.Look{
		4:  {none(4, 2, 0), none(4, 2, 4), none(4, 2, 7), none(4, 2, 9), none(4, 2, top)},
		7:  {none(7, 2, 0), none(7, 2, 4), entry(7, 0, 2, 7, version(2, 1), true), entry(7, 1, 2, 9, version(1, 1), false), entry(7, 2, 2, top, version(0, 0), false)},
		11: {entry(11, 0, 3, 0, version(3, 1), false), entry(11, 1, 3, 4, version(0, 0), false), entry(11, 2, 3, 7, version(2, 1), false), entry(11, 3, 3, 9, version(0, 0), false), entry(11, 4, 3, top, version(0, 0), false)},
	} {
		if l := match.Set(h, pos); !slices.Equal(l, want) {
			t.Errorf("%d: %v, not %v", pos, l, want)
		}
	}
	for _, pos := range positions(h.Records()) {
		if l := match.Set(h, pos); len(l) != 0 && pos != 4 && pos != 7 && pos != 11 {
			t.Errorf("%d: %v", pos, l)
		}
	}
	if l := match.Set(told(t, "begin 1; pred 1 all; commit 1"), 1); len(l) != 0 {
		t.Errorf("no objects: %v", l)
	}
}

// Of a nil history: nothing, and false. One of no records has unborn.
func TestNothing(t *testing.T) {
	p := asking(t, "all")
	var zero history.History
	for i, h := range []*history.History{nil, &zero, made(t), told(t, "begin 1; commit 1")} {
		for _, x := range objects() {
			if match.Holds(h, p, x, version(0, 0)) || match.Holds(h, p, x, version(1, 1)) {
				t.Errorf("%d: Holds", i)
			}
			if i == 0 {
				checkSteps(t, match.Row(h, p, x, 0))
				checkNoSplit(t, h, p, x, 0, version(0, 0))
			} else {
				checkSteps(t, match.Row(h, p, x, 1), unborn())
			}
			checkNoSplit(t, h, p, x, 0, version(1, 1))
		}
		for _, pos := range positions(nil) {
			if l := match.Set(h, pos); len(l) != 0 {
				t.Errorf("%d: Set(%d): %v", i, pos, l)
			}
		}
	}
}

// P12.1: a row has the versions of its object's order, and their writers, but own's.
func TestRowIsTheOrder(t *testing.T) {
	for seed := range uint64(60) {
		h := made(t, grown(100, 100+seed)...)
		o := order.Of(h)
		for _, x := range objects() {
			for _, own := range owners(h.Records()) {
				var versions []record.Version
				var writers []int
				for _, s := range match.Row(h, pred.Expr{Kind: pred.All}, x, own) {
					versions, writers = append(versions, s.V), append(writers, s.Writer)
				}
				number := -1
				if w, ok := h.Tx(own); ok {
					number = w.Number
				}
				others := slices.DeleteFunc(o.Writers(x), func(n int) bool { return n == number })
				if !slices.Equal(versions, o.Without(x, number)) || !slices.Equal(writers, append([]int{-1}, others...)) {
					t.Fatalf("%d, %d: %v, %v", x, own, versions, writers)
				}
			}
		}
	}
}

// P12.1 to P12.3: all short traces of a few records, against the words.
func TestAllShort(t *testing.T) {
	of := lines(t, "begin 1; begin 2; write 1 5 1; write 2 5 2; delete 1 5; write 2 3 0; commit 1; commit 2; abort 2; pred 2 v<=1; pred 2 v<=1 5:1.1:1; pred 2 v<=1 3:2.1:1 5:0.0:0; read 2 5 1.1")
	found := 0
	var try func(l []record.Record)
	try = func(l []record.Record) {
		for _, r := range of {
			longer := append(slices.Clone(l), r)
			if _, rule := shape.Check(longer...); rule != api.Right {
				continue
			}
			found++
			h := made(t, longer...)
			checkSets(t, h, longer)
			for own := range uint64(3) {
				checkObject(t, h, longer, pred.Expr{Kind: pred.VMost, A: 1}, 5, own, []record.Version{{}, version(1, 1), version(1, 2), version(2, 1), version(2, 2)})
			}
			if len(longer) < 7 {
				try(longer)
			}
		}
	}
	try(nil)
	if found < 10000 {
		t.Errorf("%d", found)
	}
}

// P12.1 to P12.3: grown traces against the words.
func TestGrown(t *testing.T) {
	most := 0
	for seed := range uint64(40) {
		l := grown(10+3*int(seed), seed)
		h := made(t, l...)
		checkAll(t, h, l)
		for _, x := range objects() {
			most = max(most, len(match.Changes(match.Row(h, pred.Expr{Kind: pred.All}, x, 0)...)))
		}
	}
	if most < 4 {
		t.Errorf("no row has more than %d changes", most)
	}
}

// P12.1, P12.2: a long row, whose writers' names fall and rise.
func TestLongRow(t *testing.T) {
	const writers = api.MaxRecords / 3
	var l, ends []record.Record
	for i := range uint64(writers) {
		w := i*0x9E3779B97F4A7C15 + 1
		l = append(l, record.Record{Kind: record.Begin, T: w}, record.Record{Kind: record.Write, T: w, X: 7, Value: i})
		ends = append(ends, record.Record{Kind: record.Commit, T: w})
	}
	slices.Reverse(ends)
	h := made(t, append(l, ends...)...)
	odd := pred.Expr{Kind: pred.VMod, A: 2, B: 1}
	row := match.Row(h, odd, 7, 0)
	if len(row) != writers+1 {
		t.Fatalf("%d", len(row))
	}
	for i, s := range row[1:] {
		if s.V != version(ends[i].T, 1) || s.Writer != i || s.Matches != ((writers-1-i)%2 == 1) || s.Changes != (i > 0 || s.Matches) {
			t.Fatalf("%d: %v", i, s)
		}
	}
	ahead, behind, ok := match.Split(h, odd, 7, 0, row[1000].V)
	if !ok || len(ahead)+len(behind) != len(match.Changes(row...)) || ahead[len(ahead)-1] != row[1000] || behind[0] != row[1001] {
		t.Errorf("%d, %d, %v", len(ahead), len(behind), ok)
	}
}

// P12.1, P12.3: many objects, each of whose rows is short, and a Pred that names every other one.
func TestManyObjects(t *testing.T) {
	const objects = 30000
	p := pred.Expr{Kind: pred.VMod, A: 3, B: 1}
	l := []record.Record{{Kind: record.Begin, T: 1}}
	asks := record.Record{Kind: record.Pred, T: 2, P: p}
	for x := range uint64(objects) {
		l = append(l, record.Record{Kind: record.Write, T: 1, X: x, Value: x})
		if x%2 == 0 {
			asks.Entries = append(asks.Entries, record.Entry{X: x, V: version(1, 1), M: x%3 == 1})
		}
	}
	l = append(l, record.Record{Kind: record.Begin, T: 2}, asks, record.Record{Kind: record.Commit, T: 1})
	h := made(t, l...)
	set := match.Set(h, len(l)-2)
	if len(set) != objects {
		t.Fatalf("%d", len(set))
	}
	for i, k := range set {
		x := uint64(i)
		want := history.Look{Pos: len(l) - 2, Place: -1, T: 2, X: x, Pred: true}
		if x%2 == 0 {
			want.Place, want.V, want.M = i/2, version(1, 1), x%3 == 1
		}
		row := match.Row(h, p, x, 2)
		if k != want || len(row) != 2 || row[1].Matches != (x%3 == 1) || row[1].Changes != row[1].Matches {
			t.Fatalf("%d: %v, %v", i, k, row)
		}
	}
}
