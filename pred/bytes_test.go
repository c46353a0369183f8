package pred_test

import (
	"bytes"
	"math"
	"slices"
	"testing"

	"alibi/api"
	"alibi/pred"
)

// checkTaken asks Take, and Parse, of bytes that have p's from a place on, or (where it is nil) no predicate's.
func checkTaken(t *testing.T, b []byte, at int, p *pred.Expr) {
	t.Helper()
	was := bytes.Clone(b)
	q, next, e := pred.Take(b, at)
	if p == nil && (e != api.ErrPred || next != 0 || !pred.Same(q, pred.Expr{})) {
		t.Errorf("Take(%v, %d): %v, %d, %d", b, at, q, next, e)
	}
	if p != nil && (e != api.OK || next != at+len(bytesByWords(*p)) || !pred.Same(q, *p)) {
		t.Errorf("Take(%v, %d): %v, %d, %d, not %v", b, at, q, next, e, *p)
	}
	if at >= 0 && at <= len(b) {
		whole := p != nil && at+len(bytesByWords(*p)) == len(b)
		q, e = pred.Parse(b[at:])
		if whole && (e != api.OK || !pred.Same(q, *p)) || !whole && (e != api.ErrPred || !pred.Same(q, pred.Expr{})) {
			t.Errorf("Parse(%v): %v, %d", b[at:], q, e)
		}
	}
	if !bytes.Equal(b, was) {
		t.Errorf("changed: %v, not %v", b, was)
	}
}

// P4.2: how predicates stand.
func TestPut(t *testing.T) {
	for i, x := range []struct {
		p    pred.Expr
		want []byte
	}{
		{all(), []byte{1}},
		{xMost(0), []byte{2, 0}},
		{xMost(300), []byte{2, 172, 2}},
		{vMost(127), []byte{3, 127}},
		{vMost(top), []byte{3, 255, 255, 255, 255, 255, 255, 255, 255, 255, 1}},
		{vMod(128, 0), []byte{4, 128, 1, 0}},
		{vMod(300, 128), []byte{4, 172, 2, 128, 1}},
		{not(all()), []byte{5, 1}},
		{and(), []byte{6, 0}},
		{or(), []byte{7, 0}},
		{or(all(), vMost(1)), []byte{7, 2, 1, 3, 1}},
		{and(xMost(7), not(vMod(3, 1))), []byte{6, 2, 2, 7, 5, 4, 3, 1}},
		{and(and(), or(or())), []byte{6, 2, 6, 0, 7, 1, 7, 0}},
		{and(alls(31)...), append([]byte{6, 31}, bytes.Repeat([]byte{1}, 31)...)},
		{nots(7, all()), []byte{5, 5, 5, 5, 5, 5, 5, 1}},
	} {
		if b := pred.Put(x.p); !bytes.Equal(b, x.want) {
			t.Errorf("%d: %v, not %v", i, b, x.want)
		}
		checkTaken(t, x.want, 0, &x.p)
	}
	for i, p := range spoilt() {
		if b := pred.Put(p); len(b) != 0 {
			t.Errorf("not right, %d: %v", i, b)
		}
	}
}

// P4.2, P4.6: what was put is taken, and parsed, wherever it stands; what stands behind is left.
func TestTakeGrown(t *testing.T) {
	behind := [][]byte{nil, {0}, {1}, {128}, {255, 255}, {6, 2, 1, 1}}
	for i, p := range grown(3000) {
		b := pred.Put(p)
		if !bytes.Equal(b, bytesByWords(p)) {
			t.Errorf("%d: %v", i, b)
		}
		for j, c := range behind {
			ahead := bytes.Repeat([]byte{5}, (i+j)%5)
			checkTaken(t, slices.Concat(ahead, b, c), len(ahead), &p)
		}
	}
}

// P4.6: no predicate's bytes begin with another one's: all that is cut off is none's.
func TestTakeCut(t *testing.T) {
	for _, p := range grown(300) {
		b := pred.Put(p)
		for n := range b {
			checkTaken(t, b[:n], 0, nil)
			checkTaken(t, append([]byte{1}, b[:n]...), 1, nil)
		}
	}
}

// P4.2: wrong places.
func TestTakePlaces(t *testing.T) {
	b := []byte{1, 2, 7, 1}
	one, seven := all(), xMost(7)
	for at, p := range map[int]*pred.Expr{
		0: &one, 1: &seven, 2: nil, 3: &one, 4: nil, 5: nil,
		-1: nil, -2: nil, math.MaxInt: nil, math.MaxInt - 1: nil, math.MinInt: nil, math.MinInt + 1: nil,
	} {
		checkTaken(t, b, at, p)
	}
	for _, at := range []int{-1, 0, 1, math.MaxInt, math.MinInt} {
		checkTaken(t, nil, at, nil)
		checkTaken(t, []byte{}, at, nil)
	}
	checkTaken(t, b[:3], 3, nil) // what lies behind the list's length is not read
	checkTaken(t, b[:2], 1, nil)
}

// P4.2: bytes that are none's.
func TestTakeWrong(t *testing.T) {
	long := func(b ...byte) []byte { return append(b, bytes.Repeat([]byte{1}, 100)...) }
	for i, b := range [][]byte{
		nil, {0}, {8}, {128}, {129, 0}, {255}, {0, 1}, {8, 1}, // kinds
		{2}, {2, 128}, {2, 128, 0}, {2, 135, 0}, {3}, {3, 255, 255}, {3, 129, 0}, // numbers that are cut, or not the shortest
		{2, 255, 255, 255, 255, 255, 255, 255, 255, 255, 2}, {2, 255, 255, 255, 255, 255, 255, 255, 255, 255, 129, 0},
		append([]byte{3}, bytes.Repeat([]byte{255}, 12)...),
		{4}, {4, 3}, {4, 3, 3}, {4, 3, 4}, {4, 0, 0}, {4, 0, 1}, {4, 1, 1}, {4, 128, 1, 128, 1}, {4, 3, 129, 0}, {4, 131, 0, 1}, {4, 3, 128},
		{5}, {5, 0}, {5, 5}, {5, 8}, {5, 4, 1, 1}, {5, 2},
		{6}, {7}, {6, 1}, {7, 1}, {6, 2, 1}, {7, 3, 1, 1}, {6, 128}, {6, 128, 0}, {7, 129, 0, 1}, {6, 1, 0}, {6, 2, 1, 8}, {6, 2, 0, 1},
		long(6, 32), long(7, 32), long(6, 100), long(6, 128, 1), long(6, 2, 6, 15, 1, 1, 1, 1, 1, 1, 1, 1, 1, 1, 1, 1, 1, 1, 1, 6, 15),
		long(6, 255, 255, 255, 255, 255, 255, 255, 255, 127), long(7, 128, 128, 128, 128, 128, 128, 128, 128, 128, 1),
		long(7, 255, 255, 255, 255, 255, 255, 255, 255, 255, 1), long(6, 129, 128, 128, 128, 128, 128, 128, 128, 128, 1),
		{5, 5, 5, 5, 5, 5, 5, 5, 1}, {5, 5, 5, 5, 5, 5, 5, 5, 5, 1}, {5, 5, 5, 5, 5, 5, 5, 6, 1, 1},
		bytes.Repeat([]byte{5}, 1<<20), bytes.Repeat([]byte{6, 1}, 1<<20), bytes.Repeat([]byte{7, 31}, 1<<20),
	} {
		if p, next, e := pred.Take(b, 0); e != api.ErrPred || next != 0 || !pred.Same(p, pred.Expr{}) {
			t.Errorf("%d: %v, %d, %d", i, p, next, e)
		}
		if p, e := pred.Parse(b); e != api.ErrPred || !pred.Same(p, pred.Expr{}) {
			t.Errorf("%d: %v, %d", i, p, e)
		}
	}
}

// P4.2: Parse has no bytes left.
func TestParseLeft(t *testing.T) {
	for i, b := range [][]byte{{1, 1}, {1, 0}, {2, 7, 1}, {2, 7, 0}, {6, 0, 0}, {6, 1, 1, 1}, {5, 1, 1}, {4, 3, 1, 0}} {
		if p, e := pred.Parse(b); e != api.ErrPred || !pred.Same(p, pred.Expr{}) {
			t.Errorf("%d: %v, %d", i, p, e)
		}
	}
}

// few are the bytes that short rows are made of.
func few() []byte { return []byte{0, 1, 2, 3, 4, 5, 6, 7, 8, 127, 128, 129, 255} }

// rows are all rows of n of these bytes.
func rows(n int, of []byte) [][]byte {
	if n == 0 {
		return [][]byte{{}}
	}
	var l [][]byte
	for _, b := range rows(n-1, of) {
		for _, c := range of {
			l = append(l, append(slices.Clone(b), c))
		}
	}
	return l
}

// numbersOf are all numbers that stand as n of these bytes.
func numbersOf(n int, of []byte) []uint64 {
	var l []uint64
	for _, b := range rows(n, of) {
		v := uint64(0)
		for i, c := range b {
			v += uint64(c%128) << (7 * i)
		}
		if bytes.Equal(numberByWords(v), b) {
			l = append(l, v)
		}
	}
	return l
}

// treesOf are all right predicates that stand as n of these bytes, n being so small that no limit is come to.
func treesOf(n int, of []byte) []pred.Expr {
	if n < 1 {
		return nil
	}
	if n == 1 {
		return []pred.Expr{all()}
	}
	var l []pred.Expr
	for _, a := range numbersOf(n-1, of) {
		l = append(l, xMost(a), vMost(a))
	}
	for i := 1; i < n-1; i++ {
		for _, a := range numbersOf(i, of) {
			for _, b := range numbersOf(n-1-i, of) {
				if a > b {
					l = append(l, vMod(a, b))
				}
			}
		}
	}
	for _, p := range treesOf(n-1, of) {
		l = append(l, not(p))
	}
	for parts := range n - 1 {
		for _, m := range listsOf(n-2, parts, of) {
			l = append(l, and(m...), or(m...))
		}
	}
	return l
}

// listsOf are all lists of so many right predicates that stand, one behind the other, as n of these bytes.
func listsOf(n, parts int, of []byte) [][]pred.Expr {
	if parts == 0 && n == 0 {
		return [][]pred.Expr{nil}
	}
	if parts == 0 {
		return nil
	}
	var l [][]pred.Expr
	for i := 1; i <= n; i++ {
		for _, m := range listsOf(n-i, parts-1, of) {
			for _, p := range treesOf(i, of) {
				l = append(l, append(slices.Clone(m), p))
			}
		}
	}
	return l
}

// P4.2, P4.6: of all short rows of bytes just those are parsed as which predicates stand, no two of them alike.
func TestParseShort(t *testing.T) {
	for n := range 6 {
		stand := map[string]pred.Expr{}
		trees := treesOf(n, few())
		for _, p := range trees {
			stand[string(bytesByWords(p))] = p
		}
		if len(stand) != len(trees) {
			t.Errorf("%d bytes: %d, of %d trees", n, len(stand), len(trees))
		}
		found := 0
		for _, b := range rows(n, few()) {
			p, e := pred.Parse(b)
			want, ok := stand[string(b)]
			if (e == api.OK) != ok || !pred.Same(p, want) || e != api.OK && e != api.ErrPred {
				t.Fatalf("%v: %v, %d", b, p, e)
			}
			if ok {
				found++
			}
		}
		if found != len(trees) {
			t.Errorf("%d bytes: %d found, of %d", n, found, len(trees))
		}
	}
}

// P4.2, P4.6: whatever is taken of changed bytes is right, and stands as it stood.
func TestTakeChanged(t *testing.T) {
	for _, p := range grown(200) {
		b := pred.Put(p)
		for i := range b {
			for _, c := range few() {
				d := slices.Concat(b, []byte{1, 1, 1})
				d[i] = c
				q, next, e := pred.Take(d, 0)
				switch {
				case e == api.OK && (!rightByWords(q) || !bytes.Equal(bytesByWords(q), d[:next])):
					t.Errorf("%v: %v, %d", d, q, next)
				case e != api.OK && (e != api.ErrPred || next != 0 || !pred.Same(q, pred.Expr{})):
					t.Errorf("%v: %v, %d, %d", d, q, next, e)
				}
			}
		}
	}
}
