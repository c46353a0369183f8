package intern_test

import (
	"math"
	"slices"
	"testing"

	"alibi/api"
	"alibi/intern"
)

// P7.1, P7.2: the chapter's examples.
func TestTableExample(t *testing.T) {
	var x intern.Table
	if n := x.Add(9, 4, 9, 7); n != 2 {
		t.Errorf("Add: %d", n)
	}
	if l := x.Names(); !slices.Equal(l, []uint64{9, 4, 7}) {
		t.Errorf("Names: %v", l)
	}
	if l := x.Rising(); !slices.Equal(l, []int{1, 2, 0}) {
		t.Errorf("Rising: %v", l)
	}
	if n, ok := x.Find(4); n != 1 || !ok {
		t.Errorf("Find(4): %d, %v", n, ok)
	}
	if n, ok := x.Find(5); n != 0 || ok {
		t.Errorf("Find(5): %d, %v", n, ok)
	}
	if name, e := x.Name(3); name != 0 || e != api.ErrNone {
		t.Errorf("Name(3): %d, %d", name, e)
	}
}

// A nil table, and whatever is asked of it: Name answers ErrNil, Add -1, and nothing is done.
func TestNilTable(t *testing.T) {
	var none *intern.Table
	for range 2 {
		for _, l := range [][]uint64{nil, {}, {0}, {5}, {5, 5, 6}, edges()} {
			if n := none.Add(l...); n != -1 {
				t.Errorf("Add(%v): %d", l, n)
			}
		}
		for _, name := range edges() {
			if n, ok := none.Find(name); n != 0 || ok {
				t.Errorf("Find(%d): %d, %v", name, n, ok)
			}
		}
		for _, n := range append(places(), 0, 1, 2) {
			if name, e := none.Name(n); name != 0 || e != api.ErrNil {
				t.Errorf("Name(%d): %d, %d", n, name, e)
			}
		}
		if a, b, n, c := none.Names(), none.Rising(), none.Len(), none.Copy(); len(a) != 0 || len(b) != 0 || n != 0 || c != nil {
			t.Errorf("%v, %v, %d, %v", a, b, n, c)
		}
	}
}

// A zero table has no names; nor has one of none, one to which none were added, or a copy of it. Each takes names.
func TestZeroTable(t *testing.T) {
	var zero intern.Table
	checkTable(t, &zero, nil)
	for i, x := range []*intern.Table{new(intern.Table), {}, intern.From(), intern.From(nil...), intern.From([]uint64{}...), zero.Copy(), zero.Copy().Copy(), intern.From().Copy()} {
		if x == nil {
			t.Fatalf("%d: nil", i)
		}
		checkTable(t, x, nil)
		for _, l := range [][]uint64{nil, {}} {
			if n := x.Add(l...); n != -1 {
				t.Errorf("%d: Add(%v): %d", i, l, n)
			}
		}
		checkTable(t, x, nil)
		if n := x.Add(0); n != 0 {
			t.Errorf("%d: Add(0): %d", i, n)
		}
		checkTable(t, x, []uint64{0})
	}
	checkTable(t, &zero, nil)
}

// P7.1, P7.2: all rows of up to five of three names, at once and one by one, by From and by Add.
func TestAllRows(t *testing.T) {
	for _, of := range [][]uint64{{0, 1, top}, {5, 4, 3}, {1 << 63, 1 << 32, 1<<63 - 1}} {
		for many := range 6 {
			for _, row := range rows(many, len(of)) {
				l := named(row, of)
				have := once(l)
				checkTable(t, intern.From(l...), have)
				var all, one intern.Table
				if n := all.Add(l...); n != last(have, l) {
					t.Fatalf("Add(%v): %d", l, n)
				}
				checkTable(t, &all, have)
				for i, name := range l {
					if n := one.Add(name); n != slices.Index(have, name) || n >= one.Len() {
						t.Fatalf("%v, %d: Add(%d): %d", l, i, name, n)
					}
				}
				checkTable(t, &one, have)
			}
		}
	}
}

// P7.1: Add behind From, and behind Add: those that had numbers keep them, the others have the next ones.
func TestAdd(t *testing.T) {
	x := intern.From(50, 20, 50, 30)
	have := []uint64{50, 20, 30}
	for i, v := range []struct {
		l    []uint64
		n    int
		more []uint64
	}{
		{nil, -1, nil}, {[]uint64{20}, 1, nil}, {[]uint64{7, 50}, 0, []uint64{7}}, {[]uint64{50, 8}, 4, []uint64{8}},
		{[]uint64{}, -1, nil}, {[]uint64{9, 10, 9}, 5, []uint64{9, 10}}, {[]uint64{0, 0, 0}, 7, []uint64{0}}, {[]uint64{top, 10}, 6, []uint64{top}},
		{[]uint64{50, 20, 30, 7, 8, 9, 10, 0, top}, 8, nil}, {[]uint64{1 << 63}, 9, []uint64{1 << 63}}, {[]uint64{top}, 8, nil},
	} {
		have = append(have, v.more...)
		if n := x.Add(v.l...); n != v.n {
			t.Errorf("%d: Add(%v): %d, not %d", i, v.l, n, v.n)
		}
		checkTable(t, x, have)
	}
}

// P7.1: names that are alike in some of their digits only.
func TestNamesApart(t *testing.T) {
	var l []uint64
	for i := range 64 {
		l = append(l, 1<<i, ^uint64(1<<i), top<<i, top>>i)
	}
	checkTable(t, intern.From(l...), once(l))
}

// P7.1, P7.2, P7.5: tables that grow, by rows of all lengths.
func TestGrown(t *testing.T) {
	for seed := range uint64(60) {
		x := intern.From(grown(int(seed%5), seed)...)
		have := once(grown(int(seed%5), seed))
		for step := range uint64(8) {
			l := grown(int((seed+step)%9), seed*100+step)
			had := slices.Clone(have)
			have = once(append(have, l...))
			if n := x.Add(l...); n != last(have, l) {
				t.Fatalf("%d, %d: Add(%v): %d", seed, step, l, n)
			}
			checkTable(t, x, have)
			for n, name := range had { // its number is the one that it had
				if got, ok := x.Find(name); got != n || !ok {
					t.Fatalf("%d, %d: Find(%d): %d, %v, not %d", seed, step, name, got, ok, n)
				}
			}
		}
	}
}

// P7.1, P7.2: many names, falling, each of them twice.
func TestManyNames(t *testing.T) {
	const many = 100000
	var l []uint64
	for i := range uint64(many) {
		l = append(l, top-i*i, top-i*i)
	}
	x := intern.From(l...)
	names, rising := x.Names(), x.Rising()
	if x.Len() != many || len(names) != many || len(rising) != many {
		t.Fatalf("%d, %d, %d", x.Len(), len(names), len(rising))
	}
	for i := range many {
		if n, ok := x.Find(l[2*i]); n != i || !ok || names[i] != l[2*i] || rising[i] != many-1-i {
			t.Fatalf("%d: %d, %v; %d; %d", i, n, ok, names[i], rising[i])
		}
		if name, e := x.Name(i); name != l[2*i] || e != api.OK {
			t.Fatalf("%d: %d, %d", i, name, e)
		}
	}
	if n := x.Add(l...); n != many-1 || x.Len() != many {
		t.Errorf("again: %d, %d", n, x.Len())
	}
}

// P7.2: Rising, as names that come rise, fall, and are mixed.
func TestRising(t *testing.T) {
	for i, v := range []struct {
		l    []uint64
		want []int
	}{
		{nil, nil}, {[]uint64{7}, []int{0}}, {[]uint64{7, 7}, []int{0}}, {[]uint64{1, 2, 3}, []int{0, 1, 2}}, {[]uint64{3, 2, 1}, []int{2, 1, 0}},
		{[]uint64{top, 0, 1 << 63, 1<<63 - 1}, []int{1, 3, 2, 0}}, // by size, no digit tells a sign
		{[]uint64{1 << 32, 1, 1<<32 + 1, 0}, []int{3, 1, 0, 2}}, {[]uint64{10, 9, 100, 99}, []int{1, 0, 3, 2}},
	} {
		if l := intern.From(v.l...).Rising(); !slices.Equal(l, v.want) {
			t.Errorf("%d: Rising of %v: %v, not %v", i, v.l, l, v.want)
		}
	}
	for seed := range uint64(20) {
		x := intern.From(grown(300, seed)...)
		l := x.Rising()
		if !slices.IsSortedFunc(l, byName(x.Names())) || len(once(l)) != x.Len() {
			t.Errorf("%d: %v", seed, l)
		}
	}
}

// P7.2: a copy has the same names, and goes its own way; so does the one that it was made of.
func TestCopy(t *testing.T) {
	x := intern.From(3, 1, 2)
	c := x.Copy()
	checkTable(t, c, []uint64{3, 1, 2})
	if n := c.Add(9); n != 3 {
		t.Errorf("%d", n)
	}
	checkTable(t, x, []uint64{3, 1, 2})
	if n := x.Add(8, 7); n != 4 {
		t.Errorf("%d", n)
	}
	checkTable(t, c, []uint64{3, 1, 2, 9})
	checkTable(t, x, []uint64{3, 1, 2, 8, 7})
	d, e := c.Copy(), c.Copy()
	if n := d.Add(8); n != 4 {
		t.Errorf("%d", n)
	}
	checkTable(t, e, []uint64{3, 1, 2, 9})
	checkTable(t, c, []uint64{3, 1, 2, 9})
	checkTable(t, d, []uint64{3, 1, 2, 9, 8})
	if c == x || d == c || d == e {
		t.Error("a copy is the table itself")
	}
	for many := range 20 { // whatever room a row has behind it
		a := intern.From(edges()[:many%len(edges())]...)
		b := a.Copy()
		a.Add(1000)
		b.Add(2000)
		if n, _ := a.Find(1000); n != a.Len()-1 || a.Names()[n] != 1000 || b.Names()[n] != 2000 {
			t.Errorf("%d: %v, %v", many, a.Names(), b.Names())
		}
	}
}

// P7.4: names that are handed in are only read, and not kept; what lies behind them is not touched.
func TestTableHandedIn(t *testing.T) {
	back := grown(40, 3)
	was := slices.Clone(back)
	x := intern.From(back[:10]...)
	x.Add(back[5:12]...)
	x.Add(back[12:12]...)
	x.Add(back[20:25:25]...)
	if !slices.Equal(back, was) {
		t.Errorf("changed: %v", back)
	}
	clear(back)
	checkTable(t, x, once(slices.Concat(was[:12], was[20:25])))
}

// P7.4: what is answered is new memory, the room behind it included.
func TestTableAnswers(t *testing.T) {
	for many := range 40 {
		l := grown(many, 5)
		x := intern.From(l...)
		have := once(l)
		names, rising, copied := x.Names(), x.Rising(), x.Copy()
		otherNames, otherRising := x.Names(), x.Rising()
		for _, a := range [][]uint64{names[:cap(names)], copied.Names()} {
			for i := range a {
				a[i] = 77
			}
		}
		rising = rising[:cap(rising)]
		for i := range rising {
			rising[i] = math.MinInt
		}
		if !slices.Equal(otherNames, have) || !slices.Equal(otherRising, risen(have, greater)) {
			t.Fatalf("%d: an answer lies in another one: %v, %v", many, otherNames, otherRising)
		}
		checkTable(t, x, have)
		checkTable(t, copied, have)
		whole := otherNames[:cap(otherNames)]
		was := slices.Clone(whole)
		x.Add(12345, 67890)
		if !slices.Equal(whole, was) {
			t.Fatalf("%d: what comes later lies in an answer: %v, %v", many, whole, was)
		}
	}
}

// P7.5: rows that are alike but for names have the same numbers, and Find and Name are each other's.
func TestAlike(t *testing.T) {
	turns := []func(uint64) uint64{
		func(v uint64) uint64 { return ^v }, func(v uint64) uint64 { return v + 1 }, func(v uint64) uint64 { return v<<32 | v>>32 }, func(v uint64) uint64 { return v * 0x9e3779b97f4a7c15 },
	}
	for seed := range uint64(30) {
		l := grown(100, seed)
		x := intern.From(l...)
		for i, turn := range turns {
			var y intern.Table
			for _, name := range l {
				other := y.Add(turn(name))
				if n, ok := x.Find(name); n != other || !ok {
					t.Fatalf("%d, %d: %d has %d, the other one %d", seed, i, name, n, other)
				}
			}
			if y.Len() != x.Len() {
				t.Fatalf("%d, %d: %d, %d", seed, i, y.Len(), x.Len())
			}
			for n := range x.Len() {
				a, _ := x.Name(n)
				if b, e := y.Name(n); b != turn(a) || e != api.OK {
					t.Fatalf("%d, %d: %d is named %d, %d", seed, i, n, a, b)
				}
			}
		}
	}
}

// Two tables have nothing of each other, and what they answer is the same each time.
func TestTablesApart(t *testing.T) {
	a, b := intern.From(1, 2), intern.From(2, 1)
	a.Add(3)
	checkTable(t, b, []uint64{2, 1})
	checkTable(t, a, []uint64{1, 2, 3})
	l := grown(200, 9)
	want := intern.From(l...)
	for range 20 {
		x := intern.From(l...)
		if !slices.Equal(x.Names(), want.Names()) || !slices.Equal(x.Rising(), want.Rising()) {
			t.Fatalf("%v, %v", x.Names(), want.Names())
		}
	}
}
