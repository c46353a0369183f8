package record_test

import (
	"slices"
	"strings"
	"testing"

	"alibi/pred"
	"alibi/record"
)

// The kinds' numbers.
func TestKinds(t *testing.T) {
	for i, k := range []int{record.Begin, record.Read, record.Write, record.Delete, record.Pred, record.Commit, record.Abort} {
		if k != i+1 {
			t.Errorf("%d: %d", i+1, k)
		}
	}
}

// P5.1: which records are right.
func TestRight(t *testing.T) {
	for i, r := range slices.Concat(ones(), grown(700), []record.Record{
		begin(0), commit(0), abort(top), read(0, 0, 0, 0), read(1, 2, 0, 5), read(1, 2, 5, 0), write(0, 0, 0), erase(0, 0), ask(0, both()),
		ask(1, all(), entry(5, 1, 1, true), entry(5, 1, 1, true), entry(2, 0, 0, true), entry(0, 7, 0, false)), // whether they rise is not asked here
	}) {
		if !record.Right(r) || !record.Right(emptied(r)) || !rightByWords(r) {
			t.Errorf("%d: %+v", i, r)
		}
	}
	for _, p := range predicates() {
		if !record.Right(ask(3, p)) {
			t.Errorf("%+v", p)
		}
	}
	for i, r := range spoilt() {
		if record.Right(r) {
			t.Errorf("not right, %d: %+v", i, r)
		}
	}
}

// P5.1: a record with one part other than it was is not the same; nil and empty lists are.
func TestSame(t *testing.T) {
	whole := record.Record{Kind: 99, T: 1, X: 2, V: version(3, 4), Value: 5, P: both(all(), xMost(6)), Entries: []record.Entry{entry(7, 8, 9, true), {}}}
	changes := []func(r *record.Record){
		func(r *record.Record) { r.Kind = -99 },
		func(r *record.Record) { r.T = top },
		func(r *record.Record) { r.X = 0 },
		func(r *record.Record) { r.V.W = 4 },
		func(r *record.Record) { r.V.N = 3 },
		func(r *record.Record) { r.V = version(4, 3) },
		func(r *record.Record) { r.Value++ },
		func(r *record.Record) { r.P.Kind = pred.Or },
		func(r *record.Record) { r.P.A = 1 },
		func(r *record.Record) { r.P.B = 1 },
		func(r *record.Record) { r.P.Parts = nil },
		func(r *record.Record) { r.P.Parts[1].A = 7 },
		func(r *record.Record) { slices.Reverse(r.P.Parts) },
		func(r *record.Record) { r.Entries = nil },
		func(r *record.Record) { r.Entries = r.Entries[:1] },
		func(r *record.Record) { r.Entries = append(r.Entries, record.Entry{}) },
		func(r *record.Record) { slices.Reverse(r.Entries) },
		func(r *record.Record) { r.Entries[0].X = 0 },
		func(r *record.Record) { r.Entries[0].V.W = 0 },
		func(r *record.Record) { r.Entries[0].V.N = 0 },
		func(r *record.Record) { r.Entries[1].M = true },
	}
	for i, change := range changes {
		r := record.Copy(whole)
		if !record.Same(r, whole) {
			t.Fatalf("%d: ahead: %+v", i, r)
		}
		change(&r)
		if record.Same(r, whole) || record.Same(whole, r) || !record.Same(r, r) {
			t.Errorf("%d: %+v", i, r)
		}
	}
	l := slices.Concat(ones(), strangers(), []record.Record{{}, whole})
	for i, a := range l {
		for j, b := range l {
			if record.Same(a, b) != sameByWords(a, b) {
				t.Errorf("%d, %d", i, j)
			}
		}
		if !record.Same(a, emptied(a)) || !record.Same(emptied(a), a) {
			t.Errorf("%d: nil and empty", i)
		}
	}
}

// checkApart changes all that lies in a copy's memory, and asks whether r is as it was.
func checkApart(t *testing.T, r, c record.Record) {
	t.Helper()
	was := textOfAll(r)
	for i := range c.Entries {
		c.Entries[i] = entry(77, 77, 77, !c.Entries[i].M)
	}
	_ = append(c.Entries, entry(78, 78, 78, true))
	spoil(c.P)
	if textOfAll(r) != was {
		t.Errorf("%s, not %s", textOfAll(r), was)
	}
}

func spoil(p pred.Expr) {
	for i := range p.Parts {
		spoil(p.Parts[i])
		p.Parts[i] = pred.Expr{Kind: 55, A: 55}
	}
	_ = append(p.Parts, pred.Expr{Kind: 56})
}

// textOfAll tells all parts of any record, and what lies in memory behind its lists.
func textOfAll(r record.Record) string {
	s := strings.Join([]string{digits(uint64(r.Kind)), digits(r.T), digits(r.X), r.V.Text(), digits(r.Value), textOfTree(r.P)}, " ")
	for _, e := range r.Entries[:cap(r.Entries)] {
		s += " " + digits(e.X) + ":" + e.V.Text()
		if e.M {
			s += "!"
		}
	}
	return s
}

func textOfTree(p pred.Expr) string {
	s := digits(uint64(p.Kind)) + "," + digits(p.A) + "," + digits(p.B) + "("
	for _, q := range p.Parts[:cap(p.Parts)] {
		s += textOfTree(q)
	}
	return s + ")"
}

// withRoom is the same record, with more memory behind its lists.
func withRoom(r record.Record) record.Record {
	r = record.Copy(r)
	if len(r.Entries) > 0 {
		r.Entries = append(r.Entries, entry(91, 92, 93, true))[:len(r.Entries)]
	}
	if len(r.P.Parts) > 0 {
		r.P.Parts = append(r.P.Parts, xMost(94))[:len(r.P.Parts)]
	}
	return r
}

// P5.1, P5.4: a copy is the same, also of records that are not right, and shares no memory.
func TestCopy(t *testing.T) {
	odd := []record.Record{
		{}, {Kind: -5, T: 1, X: 2, V: version(3, 4), Value: 5, P: not(not(pred.Expr{Kind: 70, A: 8, Parts: []pred.Expr{{}, both(all())}})), Entries: []record.Entry{entry(1, 2, 3, true), {}}},
		{Kind: record.Begin, Entries: make([]record.Entry, 3), P: both(both(both(xMost(1)), xMost(2)), xMost(3))},
	}
	for i, r := range slices.Concat(ones(), strangers(), grown(210), odd) {
		r = withRoom(r)
		c := record.Copy(r)
		if !sameByWords(c, r) {
			t.Errorf("%d: %+v, not %+v", i, c, r)
		}
		checkApart(t, r, c)
		checkApart(t, c, record.Copy(c))
	}
}

// P5.1: versions.
func TestVersions(t *testing.T) {
	for _, x := range []struct {
		v      record.Version
		unborn bool
		text   string
	}{
		{version(0, 0), true, "0.0"},
		{version(0, 1), false, "0.1"},
		{version(1, 0), false, "1.0"},
		{version(1, 5), false, "1.5"},
		{version(10, 200), false, "10.200"},
		{version(top, 1<<63), false, "18446744073709551615.9223372036854775808"},
	} {
		if x.v.Unborn() != x.unborn || x.v.Text() != x.text {
			t.Errorf("%v: %t, %q", x.v, x.v.Unborn(), x.v.Text())
		}
	}
	if version(1, 2) != version(1, 2) || version(1, 2) == version(2, 1) || entry(1, 2, 3, true) != entry(1, 2, 3, true) || entry(1, 2, 3, true) == entry(1, 2, 3, false) {
		t.Error("==")
	}
}

// P5.1: versions in order: by W, then by N, both as numbers without a sign.
func TestCmp(t *testing.T) {
	l := []record.Version{
		version(0, 0), version(0, 1), version(0, 1<<63), version(0, top), version(1, 0), version(1, 5), version(1, 10), version(2, 1), version(10, 0),
		version(1<<63-1, top), version(1<<63, 0), version(1<<63, 1), version(top, 0), version(top, top),
	}
	for i, v := range l {
		for j, w := range l {
			want := 0
			if i < j {
				want = -1
			}
			if i > j {
				want = 1
			}
			if n := record.Cmp(v, w); n != want {
				t.Errorf("%v, %v: %d", v, w, n)
			}
		}
	}
}
