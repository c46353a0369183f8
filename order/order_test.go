package order_test

import (
	"math"
	"slices"
	"testing"

	"alibi/api"
	"alibi/history"
	"alibi/order"
	"alibi/record"
	"alibi/shape"
)

// The chapter's examples.
func TestExamples(t *testing.T) {
	o := told(t, "begin 1; begin 2; write 1 5 7; write 2 5 8; write 2 5 9; commit 2; commit 1")
	if v, w := o.Versions(5), o.Writers(5); !slices.Equal(v, []record.Version{{}, version(2, 2), version(1, 1)}) || !slices.Equal(w, []int{0, 1}) {
		t.Errorf("Versions, Writers: %v, %v", v, w)
	}
	if v, w, ok := o.Next(5, version(2, 2)); v != version(1, 1) || w != 1 || !ok {
		t.Errorf("Next: %v, %d, %v", v, w, ok)
	}
	if place, ok := o.Place(5, version(2, 1)); place != 0 || ok {
		t.Errorf("Place: %d, %v", place, ok)
	}
	if a, b, last := o.Before(5, 5), o.Before(5, 6), o.Last(5); a != version(0, 0) || b != version(2, 2) || last != version(1, 1) {
		t.Errorf("Before, Last: %v, %v, %v", a, b, last)
	}
}

// P11.1: objects that are only read, named by an entry, or modified by one that aborted, or is open, have no order.
func TestObjects(t *testing.T) {
	o := told(t, "begin 9; write 9 18446744073709551615 3; read 9 4 0.0; delete 9 0; begin 3; write 3 8 1; begin 6; write 6 7 1; pred 6 all 2:0.0:0 7:6.1:1; write 9 5 1; commit 9; abort 3; begin 1; delete 1 5; commit 1; begin 2; commit 2")
	if l := o.Objects(); !slices.Equal(l, []uint64{0, 5, top}) {
		t.Errorf("%v", l)
	}
	for _, x := range []uint64{1, 2, 4, 7, 8, 9, top - 1} {
		if v, w := o.Versions(x), o.Writers(x); !slices.Equal(v, []record.Version{{}}) || len(w) != 0 || o.Len(x) != 0 {
			t.Errorf("%d: %v, %v, %d", x, v, w, o.Len(x))
		}
	}
	if v, w := o.Versions(5), o.Writers(5); !slices.Equal(v, []record.Version{{}, version(9, 1), version(1, 1)}) || !slices.Equal(w, []int{0, 1}) || o.Len(5) != 2 {
		t.Errorf("%v, %v", v, w)
	}
}

// P11.1: by the writers' ends: not by their names, their Begins, or where they modified; numbers of those that modified nothing are left out.
func TestByEnds(t *testing.T) {
	l := lines(t, "begin 30; begin 7; begin 18446744073709551615; begin 2; begin 50; begin 4; write 30 1 1; write 7 1 1; commit 50; write 4 1 9; write 2 1 1; write 18446744073709551615 1 1; commit 18446744073709551615; abort 4; delete 30 1; commit 2; begin 5; commit 5; commit 30; write 7 1 2; write 7 1 3; commit 7")
	o := made(t, l...)
	want := []record.Version{{}, version(top, 1), version(2, 1), version(30, 2), version(7, 3)}
	if v, w := o.Versions(1), o.Writers(1); !slices.Equal(v, want) || !slices.Equal(w, []int{1, 2, 4, 5}) || o.Len(1) != 4 {
		t.Errorf("%v, %v", v, w)
	}
	checkOrder(t, o, l)
}

// P11.2: what is asked of each place; at the first and the last one, too.
func TestPlaces(t *testing.T) {
	o := told(t, "begin 4; begin 1; write 4 5 1; write 1 5 2; commit 4; begin 9; delete 9 5; commit 1; commit 9")
	all := []record.Version{{}, version(4, 1), version(1, 1), version(9, 1)}
	for i, v := range all {
		if place, ok := o.Place(5, v); place != i || !ok {
			t.Errorf("Place(%s): %d, %v", v.Text(), place, ok)
		}
		if w, ok := o.Installed(5, v); w != max(i-1, 0) || ok != (i > 0) {
			t.Errorf("Installed(%s): %d, %v", v.Text(), w, ok)
		}
		if next, w, ok := o.Next(5, v); i < 3 && (next != all[i+1] || w != i || !ok) || i == 3 && (next != version(0, 0) || w != 0 || ok) {
			t.Errorf("Next(%s): %v, %d, %v", v.Text(), next, w, ok)
		}
		if a, ok := o.Ahead(5, v); i > 0 && (a != all[i-1] || !ok) || i == 0 && (a != version(0, 0) || ok) {
			t.Errorf("Ahead(%s): %v, %v", v.Text(), a, ok)
		}
	}
}

// checkNone tells that a version does not stand in an object's order.
func checkNone(t *testing.T, o *order.Order, x uint64, v record.Version) {
	t.Helper()
	if place, ok := o.Place(x, v); place != 0 || ok {
		t.Errorf("Place(%d, %s): %d, %v", x, v.Text(), place, ok)
	}
	if next, w, ok := o.Next(x, v); next != version(0, 0) || w != 0 || ok {
		t.Errorf("Next(%d, %s): %v, %d, %v", x, v.Text(), next, w, ok)
	}
	if a, ok := o.Ahead(x, v); a != version(0, 0) || ok {
		t.Errorf("Ahead(%d, %s): %v, %v", x, v.Text(), a, ok)
	}
	if w, ok := o.Installed(x, v); w != 0 || ok {
		t.Errorf("Installed(%d, %s): %d, %v", x, v.Text(), w, ok)
	}
}

// P11.2: versions that are not final, of one that aborted, or is open, of another object, and such as are made by hand.
func TestNoPlace(t *testing.T) {
	o := told(t, "begin 1; begin 2; begin 3; write 1 5 1; write 1 5 2; write 2 5 3; write 3 5 4; write 1 6 5; abort 2; commit 1")
	for _, v := range []record.Version{version(1, 1), version(2, 1), version(3, 1), version(1, 0), version(1, 3), version(0, 1), version(0, 2), version(4, 2), version(1, 1<<32+2), version(1<<32+1, 2), version(top, top), version(1, top), version(0, top)} {
		checkNone(t, o, 5, v)
	}
	for _, x := range []uint64{0, 1, 4, 7, 1<<32 + 5, top} {
		for _, v := range []record.Version{version(1, 1), version(1, 2), version(x, 1), version(0, 1), version(top, top)} {
			checkNone(t, o, x, v)
		}
		checkAlone(t, o, x)
	}
	checkNone(t, o, 6, version(1, 2))
}

// checkAlone tells that unborn stands alone in an object's order.
func checkAlone(t *testing.T, o *order.Order, x uint64) {
	t.Helper()
	unborn := version(0, 0)
	if v, w := o.Versions(x), o.Writers(x); !slices.Equal(v, []record.Version{unborn}) || len(w) != 0 || o.Len(x) != 0 || o.Last(x) != unborn {
		t.Errorf("%d: %v, %v, %d, %v", x, v, w, o.Len(x), o.Last(x))
	}
	if place, ok := o.Place(x, unborn); place != 0 || !ok {
		t.Errorf("Place(%d, 0.0): %d, %v", x, place, ok)
	}
	if next, w, ok := o.Next(x, unborn); next != unborn || w != 0 || ok {
		t.Errorf("Next(%d, 0.0): %v, %d, %v", x, next, w, ok)
	}
	if a, ok := o.Ahead(x, unborn); a != unborn || ok {
		t.Errorf("Ahead(%d, 0.0): %v, %v", x, a, ok)
	}
	if w, ok := o.Installed(x, unborn); w != 0 || ok {
		t.Errorf("Installed(%d, 0.0): %d, %v", x, w, ok)
	}
	for _, n := range []int{math.MinInt, -1, 0, 1, 99, math.MaxInt} {
		if v, l := o.Before(x, n), o.Without(x, n); v != unborn || !slices.Equal(l, []record.Version{unborn}) {
			t.Errorf("%d: Before(%d), Without: %v, %v", x, n, v, l)
		}
	}
}

// Of a nil history: nil. Of a nil order, and of one of nothing: unborn alone.
func TestNothing(t *testing.T) {
	if o := order.Of(nil); o != nil {
		t.Errorf("%v", o)
	}
	var zero order.Order
	var none history.History
	for i, o := range []*order.Order{nil, order.Of(nil), &zero, order.Of(&none), made(t), told(t, "begin 1; commit 1"), told(t, "begin 1; write 1 5 1; read 1 5 1.1"), told(t, "begin 1; delete 1 5; abort 1")} {
		if l := o.Objects(); len(l) != 0 || (o == nil) != (i < 2) {
			t.Errorf("%d: %v", i, l)
		}
		for _, x := range objects() {
			checkAlone(t, o, x)
			for _, v := range []record.Version{version(1, 1), version(0, 1), version(1, 0), version(top, top)} {
				checkNone(t, o, x, v)
			}
		}
	}
}

// P11.3: a writer that ended at the position is not below it.
func TestBefore(t *testing.T) {
	o := told(t, "begin 1; begin 2; write 1 5 1; write 2 5 2; commit 2; begin 3; commit 1; delete 3 5; commit 3; begin 4; write 4 5 3")
	for pos, want := range map[int]record.Version{math.MinInt: {}, -1: {}, 0: {}, 3: {}, 4: {}, 5: version(2, 1), 6: version(2, 1), 7: version(1, 1), 8: version(1, 1), 9: version(3, 1), 10: version(3, 1), 11: version(3, 1), 12: version(3, 1), 1 << 40: version(3, 1), math.MaxInt: version(3, 1)} {
		if v := o.Before(5, pos); v != want {
			t.Errorf("%d: %v, not %v", pos, v, want)
		}
	}
	if v := o.Last(5); v != version(3, 1) {
		t.Errorf("Last: %v", v)
	}
}

// P11.3: each writer's version alone is left out; unborn is nobody's.
func TestWithout(t *testing.T) {
	o := told(t, "begin 1; begin 2; begin 3; write 1 5 1; commit 1; commit 2; write 3 5 1; write 3 6 1; commit 3")
	all := []record.Version{{}, version(1, 1), version(3, 1)}
	for writer, want := range map[int][]record.Version{0: {{}, version(3, 1)}, 2: {{}, version(1, 1)}, 1: all, 3: all, -1: all, math.MinInt: all, math.MaxInt: all} {
		if l := o.Without(5, writer); !slices.Equal(l, want) {
			t.Errorf("%d: %v, not %v", writer, l, want)
		}
	}
}

// P11.1 to P11.3: all short traces of a few records, against the words.
func TestAllShort(t *testing.T) {
	of := lines(t, "begin 1; begin 2; write 1 5 1; write 2 5 2; delete 1 5; delete 2 3; commit 1; commit 2; abort 2; read 2 5 1.1")
	found := 0
	var try func(l []record.Record)
	try = func(l []record.Record) {
		for _, r := range of {
			longer := append(slices.Clone(l), r)
			if _, rule := shape.Check(longer...); rule != api.Right {
				continue
			}
			found++
			checkShort(t, longer)
			if len(longer) < 7 {
				try(longer)
			}
		}
	}
	try(nil)
	if found < 10000 {
		t.Errorf("%d", found)
	}
}

// checkShort asks only for objects and versions that short traces have.
func checkShort(t *testing.T, l []record.Record) {
	t.Helper()
	o := made(t, l...)
	if got := o.Objects(); !slices.Equal(got, objectsByWords(l)) {
		t.Fatalf("%s: %v", telling(l), got)
	}
	for _, x := range []uint64{3, 5} {
		all := putByWords(l, x)
		checkRow(t, o, l, x, all)
		for _, v := range []record.Version{{}, version(1, 1), version(1, 2), version(2, 1), version(2, 2)} {
			checkVersion(t, o, l, x, v, all)
		}
	}
}

// P11.1 to P11.3: grown traces against the words.
func TestGrown(t *testing.T) {
	most := 0
	for seed := range uint64(60) {
		l := grown(10+3*int(seed), seed)
		o := made(t, l...)
		checkOrder(t, o, l)
		for _, x := range o.Objects() {
			most = max(most, o.Len(x))
		}
	}
	if most < 8 {
		t.Errorf("none has more than %d", most)
	}
}

// longOne is a trace as long as may be, of one object that many write, whose names fall and rise; and their names, as they end.
func longOne() ([]record.Record, []uint64) {
	const writers = api.MaxRecords / 3
	var l []record.Record
	var names []uint64
	for i := range uint64(writers) {
		w := i*0x9E3779B97F4A7C15 + 1
		l = append(l, record.Record{Kind: record.Begin, T: w}, record.Record{Kind: record.Write, T: w, X: 7})
		names = append(names, w)
	}
	slices.Reverse(names)
	for _, w := range names {
		l = append(l, record.Record{Kind: record.Commit, T: w})
	}
	return l, names
}

// P11.1 to P11.3: each place of a long order.
func TestLong(t *testing.T) {
	l, names := longOne()
	o := made(t, l...)
	if o.Len(7) != len(names) || o.Last(7).W != names[len(names)-1] {
		t.Fatalf("%d, %v", o.Len(7), o.Last(7))
	}
	all := o.Versions(7)
	for i, w := range names {
		v := version(w, 1)
		place, ok := o.Place(7, v)
		by, is := o.Installed(7, v)
		a, some := o.Ahead(7, v)
		if place != i+1 || !ok || by != i || !is || a != all[i] || !some || all[i+1] != v || o.Before(7, 2*len(names)+i) != all[i] {
			t.Fatalf("%d: %d, %d, %v", i, place, by, a)
		}
	}
	if w := o.Writers(7); len(w) != len(names) || !slices.IsSorted(w) || len(o.Without(7, 5)) != len(names) {
		t.Errorf("%d", len(w))
	}
}
