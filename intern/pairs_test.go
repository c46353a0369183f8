package intern_test

import (
	"math"
	"slices"
	"testing"

	"alibi/api"
	"alibi/intern"
)

// P7.3: numbers, as pairs come; a pair is of both its names, in their order.
func TestPairsAdd(t *testing.T) {
	var x intern.Pairs
	var have []intern.Pair
	for i, v := range []struct {
		l    []intern.Pair
		n    int
		more []intern.Pair
	}{
		{nil, -1, nil}, {[]intern.Pair{pair(9, 4)}, 0, []intern.Pair{pair(9, 4)}}, {[]intern.Pair{pair(4, 9)}, 1, []intern.Pair{pair(4, 9)}},
		{[]intern.Pair{pair(9, 9), pair(9, 4)}, 0, []intern.Pair{pair(9, 9)}}, {[]intern.Pair{}, -1, nil},
		{[]intern.Pair{pair(0, 0), pair(0, 0)}, 3, []intern.Pair{pair(0, 0)}}, {[]intern.Pair{pair(0, top), pair(top, 0), pair(0, top)}, 4, []intern.Pair{pair(0, top), pair(top, 0)}},
		{[]intern.Pair{pair(4, 9), pair(1<<32, 0), pair(0, 1<<32)}, 7, []intern.Pair{pair(1<<32, 0), pair(0, 1<<32)}}, {[]intern.Pair{pair(9, 9)}, 2, nil},
	} {
		have = append(have, v.more...)
		if n := x.Add(v.l...); n != v.n {
			t.Errorf("%d: Add(%v): %d, not %d", i, v.l, n, v.n)
		}
		checkPairs(t, &x, have)
	}
}

// A nil pair table, and whatever is asked of it.
func TestNilPairs(t *testing.T) {
	var none *intern.Pairs
	for range 2 {
		for _, l := range [][]intern.Pair{nil, {}, {pair(0, 0)}, {pair(1, 2), pair(1, 2), pair(3, 4)}, paired(edges(), edges())} {
			if n := none.Add(l...); n != -1 {
				t.Errorf("Add(%v): %d", l, n)
			}
		}
		for _, p := range paired(append(edges(), 1), append(edges(), 2)) {
			if n, ok := none.Find(p); n != 0 || ok {
				t.Errorf("Find(%v): %d, %v", p, n, ok)
			}
		}
		for _, n := range append(places(), 0, 1, 2) {
			if p, e := none.Name(n); p != pair(0, 0) || e != api.ErrNil {
				t.Errorf("Name(%d): %v, %d", n, p, e)
			}
		}
		if l, n := none.Rising(), none.Len(); len(l) != 0 || n != 0 {
			t.Errorf("%v, %d", l, n)
		}
	}
}

// A zero pair table has no pairs, nor has one to which none were added; each takes pairs.
func TestZeroPairs(t *testing.T) {
	var zero intern.Pairs
	checkPairs(t, &zero, nil)
	for i, x := range []*intern.Pairs{new(intern.Pairs), {}} {
		checkPairs(t, x, nil)
		for _, l := range [][]intern.Pair{nil, {}} {
			if n := x.Add(l...); n != -1 {
				t.Errorf("%d: Add(%v): %d", i, l, n)
			}
		}
		checkPairs(t, x, nil)
		if n := x.Add(pair(0, 0)); n != 0 {
			t.Errorf("%d: %d", i, n)
		}
		checkPairs(t, x, []intern.Pair{pair(0, 0)})
	}
	checkPairs(t, &zero, nil)
}

// P7.3: all rows of up to four of five pairs, at once and one by one.
func TestAllPairRows(t *testing.T) {
	of := []intern.Pair{pair(1, 2), pair(2, 1), pair(1, 1), pair(0, top), pair(top, 0)}
	for many := range 5 {
		for _, row := range rows(many, len(of)) {
			l := named(row, of)
			have := once(l)
			var all, one intern.Pairs
			if n := all.Add(l...); n != last(have, l) {
				t.Fatalf("Add(%v): %d", l, n)
			}
			checkPairs(t, &all, have)
			for i, p := range l {
				if n := one.Add(p); n != slices.Index(have, p) {
					t.Fatalf("%v, %d: Add(%v): %d", l, i, p, n)
				}
			}
			checkPairs(t, &one, have)
		}
	}
}

// P7.3: Rising by A, of one A by B, both by size.
func TestPairsRising(t *testing.T) {
	for i, v := range []struct {
		l    []intern.Pair
		want []int
	}{
		{nil, nil}, {[]intern.Pair{pair(5, 5)}, []int{0}},
		{[]intern.Pair{pair(2, 1), pair(1, 9), pair(2, 0), pair(1, 9)}, []int{1, 2, 0}},
		{[]intern.Pair{pair(1, top), pair(2, 0)}, []int{0, 1}}, {[]intern.Pair{pair(2, 0), pair(1, top)}, []int{1, 0}},
		{[]intern.Pair{pair(1<<63, 0), pair(1<<63-1, 5), pair(0, 1<<63), pair(0, 1<<63-1), pair(top, top), pair(0, 0)}, []int{5, 3, 2, 1, 0, 4}},
	} {
		var x intern.Pairs
		x.Add(v.l...)
		if l := x.Rising(); !slices.Equal(l, v.want) {
			t.Errorf("%d: Rising of %v: %v, not %v", i, v.l, l, v.want)
		}
	}
}

// P7.3, P7.5: pair tables that grow; a pair's number is always the one that it had.
func TestPairsGrown(t *testing.T) {
	for seed := range uint64(60) {
		var x intern.Pairs
		var have []intern.Pair
		for step := range uint64(8) {
			many := int((seed + step) % 9)
			l := paired(grown(many, seed*100+step), grown(many, seed*100+step+50))
			had := slices.Clone(have)
			have = once(append(have, l...))
			if n := x.Add(l...); n != last(have, l) {
				t.Fatalf("%d, %d: Add(%v): %d", seed, step, l, n)
			}
			checkPairs(t, &x, have)
			for n, p := range had {
				if got, ok := x.Find(p); got != n || !ok {
					t.Fatalf("%d, %d: Find(%v): %d, %v, not %d", seed, step, p, got, ok, n)
				}
			}
		}
	}
}

// P7.3: many pairs of few names, each of them twice.
func TestManyPairs(t *testing.T) {
	const side = 300
	var l []intern.Pair
	for a := range uint64(side) {
		for b := range uint64(side) {
			l = append(l, pair(top-a, b), pair(top-a, b))
		}
	}
	var x intern.Pairs
	if n := x.Add(l...); n != side*side-1 || x.Len() != side*side {
		t.Fatalf("%d, %d", n, x.Len())
	}
	for i, n := range x.Rising() {
		a, b := i/side, i%side
		if n != (side-1-a)*side+b {
			t.Fatalf("%d: %d", i, n)
		}
		if p, e := x.Name(n); p != pair(top-uint64(side-1-a), uint64(b)) || e != api.OK {
			t.Fatalf("%d: %v, %d", n, p, e)
		}
		if got, ok := x.Find(l[2*n]); got != n || !ok {
			t.Fatalf("%v: %d, %v, not %d", l[2*n], got, ok, n)
		}
	}
}

// P7.4: pairs that are handed in are only read, and not kept; what is answered is new memory.
func TestPairsMemory(t *testing.T) {
	back := paired(grown(40, 3), grown(40, 4))
	was := slices.Clone(back)
	var x intern.Pairs
	x.Add(back[:10]...)
	x.Add(back[5:12]...)
	x.Add(back[20:25:25]...)
	if !slices.Equal(back, was) {
		t.Errorf("changed: %v", back)
	}
	clear(back)
	have := once(slices.Concat(was[:12], was[20:25]))
	checkPairs(t, &x, have)
	a, b := x.Rising(), x.Rising()
	a = a[:cap(a)]
	for i := range a {
		a[i] = math.MinInt
	}
	if !slices.Equal(b, risen(have, above)) {
		t.Errorf("an answer lies in another one: %v", b)
	}
	checkPairs(t, &x, have)
}

// P7.5: rows of pairs that are alike but for names have the same numbers.
func TestPairsAlike(t *testing.T) {
	turn := func(p intern.Pair) intern.Pair { return pair(^p.B, p.A+7) }
	for seed := range uint64(30) {
		l := paired(grown(100, seed), grown(100, seed+1000))
		var x, y intern.Pairs
		for _, p := range l {
			if n, other := x.Add(p), y.Add(turn(p)); n != other {
				t.Fatalf("%d: %v has %d, the other one %d", seed, p, n, other)
			}
		}
		for n := range x.Len() {
			a, _ := x.Name(n)
			if b, e := y.Name(n); b != turn(a) || e != api.OK {
				t.Fatalf("%d: %d is named %v, %v", seed, n, a, b)
			}
		}
		if x.Len() != y.Len() {
			t.Fatalf("%d: %d, %d", seed, x.Len(), y.Len())
		}
	}
}

// Pair tables have nothing of each other.
func TestPairsApart(t *testing.T) {
	var a, b intern.Pairs
	a.Add(pair(1, 2))
	b.Add(pair(2, 1), pair(1, 2))
	a.Add(pair(3, 3))
	checkPairs(t, &a, []intern.Pair{pair(1, 2), pair(3, 3)})
	checkPairs(t, &b, []intern.Pair{pair(2, 1), pair(1, 2)})
}
