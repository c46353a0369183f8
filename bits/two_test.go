package bits_test

import (
	"slices"
	"testing"

	"alibi/bits"
)

// way is one of the three calls, and what is to come of it.
type way struct {
	name string
	does func(s *bits.Set, l ...*bits.Set) int
	want func(m model, l ...model) model
}

func ways() []way {
	return []way{{"Join", (*bits.Set).Join, model.joined}, {"Meet", (*bits.Set).Meet, model.met}, {"Less", (*bits.Set).Less, model.left}}
}

// checkWays does each of the three on a set of the first model and sets of the others; the others stay as they were.
func checkWays(t *testing.T, m model, others ...model) {
	t.Helper()
	for _, w := range ways() {
		s := m.set()
		var l []*bits.Set
		for _, o := range others {
			l = append(l, o.set())
		}
		want := w.want(m, others...)
		moved := len(want.row) - len(m.row)
		if n := w.does(s, l...); n != max(moved, -moved) {
			t.Fatalf("%s of %v and %v: %d, not %d", w.name, m, others, n, moved)
		}
		if s.Size() != want.size || s.Len() != len(want.row) || !slices.Equal(s.All(), want.row) {
			t.Fatalf("%s of %v and %v: %v, not %v", w.name, m, others, s.All(), want.row)
		}
		if n := w.does(s, l...); n != 0 || !slices.Equal(s.All(), want.row) { // there is nothing left to do
			t.Fatalf("%s of %v and %v, again: %d, %v", w.name, m, others, n, s.All())
		}
		for i, o := range others {
			if !bits.Same(l[i], o.set()) || !slices.Equal(l[i].All(), o.row) {
				t.Fatalf("%s of %v: %v became %v", w.name, m, o, l[i].All())
			}
		}
	}
}

// P8.3: all small sets, of all sizes, with none, one, and two others.
func TestAllSmall(t *testing.T) {
	var few []model
	for size := range 4 {
		few = append(few, all(size)...)
	}
	for _, a := range few {
		checkWays(t, a)
		for _, b := range few {
			checkWays(t, a, b)
			for _, c := range few {
				checkWays(t, a, b, c)
			}
		}
	}
}

// P8.3: greater sets, of sizes that are alike and of others.
func TestGreat(t *testing.T) {
	for i, size := range sizes() {
		for k, other := range sizes() {
			for seed := range uint64(5) {
				a, b, c := grown(size, seed), grown(other, seed+uint64(i)), grown(sizes()[(i+k)%len(sizes())], seed*3+uint64(k))
				checkWays(t, a, b)
				if size <= 130 {
					checkWays(t, b, c, a)
				}
			}
		}
	}
}

// P8.3: what a set can't take in is lost, and does not come back in any way.
func TestLost(t *testing.T) {
	for _, size := range sizes() {
		full := sieve(1001, func(int) bool { return true })
		s := bits.New(size)
		if n := s.Join(full.set()); n != size {
			t.Errorf("%d: %d are new", size, n)
		}
		check(t, s, sieve(size, func(int) bool { return true }))
		if n := s.Meet(full.set()); n != 0 {
			t.Errorf("%d: %d are gone", size, n)
		}
		if full := full.set(); full.Meet(s) != 1001-size || full.Len() != size || full.Size() != 1001 {
			t.Errorf("%d: %v", size, full.All())
		}
		if n := s.Less(full.set()); n != size || s.Len() != 0 {
			t.Errorf("%d: %d are gone", size, n)
		}
		check(t, s, model{size: size})
	}
}

// P8.3: no set, nil sets, and a set that is handed to itself, alone and next to others.
func TestItself(t *testing.T) {
	a, b := taken(100, 1, 2, 64, 99), taken(200, 2, 3, 99, 150)
	for i, v := range []struct {
		does func(s, o *bits.Set) int
		n    int
		want []int
	}{
		{func(s, o *bits.Set) int { return s.Join() }, 0, a.row},
		{func(s, o *bits.Set) int { return s.Meet() }, 0, a.row},
		{func(s, o *bits.Set) int { return s.Less() }, 0, a.row},
		{func(s, o *bits.Set) int { return s.Join([]*bits.Set{}...) }, 0, a.row},
		{func(s, o *bits.Set) int { return s.Meet([]*bits.Set{}...) }, 0, a.row},
		{func(s, o *bits.Set) int { return s.Less([]*bits.Set{}...) }, 0, a.row},
		{func(s, o *bits.Set) int { return s.Join(nil, nil) }, 0, a.row},
		{func(s, o *bits.Set) int { return s.Meet(nil) }, 4, nil},
		{func(s, o *bits.Set) int { return s.Meet(s, nil) }, 4, nil},
		{func(s, o *bits.Set) int { return s.Less(nil, nil) }, 0, a.row},
		{func(s, o *bits.Set) int { return s.Join(s) }, 0, a.row},
		{func(s, o *bits.Set) int { return s.Meet(s, s) }, 0, a.row},
		{func(s, o *bits.Set) int { return s.Less(s) }, 4, nil},
		{func(s, o *bits.Set) int { return s.Join(s, o) }, 1, []int{1, 2, 3, 64, 99}},
		{func(s, o *bits.Set) int { return s.Join(o, s, o) }, 1, []int{1, 2, 3, 64, 99}},
		{func(s, o *bits.Set) int { return s.Meet(s, o) }, 2, []int{2, 99}},
		{func(s, o *bits.Set) int { return s.Meet(o, s) }, 2, []int{2, 99}},
		{func(s, o *bits.Set) int { return s.Less(s, o) }, 4, nil},
		{func(s, o *bits.Set) int { return s.Less(o, s, nil) }, 4, nil},
		{func(s, o *bits.Set) int { return s.Less(o, nil, o) }, 2, []int{1, 64}},
	} {
		s, o := a.set(), b.set()
		if n := v.does(s, o); n != v.n {
			t.Errorf("%d: %d, not %d", i, n, v.n)
		}
		check(t, s, taken(100, v.want...))
		check(t, o, b)
	}
}

// P8.4: a copy is the same, and goes its own way; so does the one that it was made of.
func TestCopy(t *testing.T) {
	for _, size := range sizes() {
		m := grown(size, 2)
		s := m.set()
		c := s.Copy()
		if c == s || !bits.Same(s, c) {
			t.Fatalf("%d: %v", size, c.All())
		}
		check(t, c, m)
		for i := range size {
			if m.has(i) != c.Remove(i) {
				t.Fatalf("%d: Remove(%d)", size, i)
			}
		}
		check(t, s, m)
		check(t, c, model{size: size})
		c = s.Copy()
		s.Join(sieve(size, func(int) bool { return true }).set())
		check(t, c, m)
		s.Less(s)
		check(t, c, m)
		d := c.Copy().Copy()
		c.Meet(nil)
		check(t, d, m)
	}
}

// P8.4: Same and Within, of all small sets, of nil, and of greater ones that differ in one number, or in size alone.
func TestSameWithin(t *testing.T) {
	var few []model
	for size := range 5 {
		few = append(few, all(size)...)
	}
	for _, a := range few {
		for _, b := range few {
			checkSameWithin(t, a, b)
		}
		none := (*bits.Set)(nil)
		if got := bits.Same(a.set(), none); got != (a.size == 0) || got != bits.Same(none, a.set()) {
			t.Errorf("%v and nil: %v", a, got)
		}
		if !bits.Within(none, a.set()) || bits.Within(a.set(), none) != (len(a.row) == 0) {
			t.Errorf("%v and nil: Within", a)
		}
	}
	if !bits.Same(nil, nil) || !bits.Within(nil, nil) {
		t.Error("nil and nil")
	}
	for _, size := range sizes() {
		m := grown(size, 2)
		checkSameWithin(t, m, m)
		for _, other := range sizes() {
			checkSameWithin(t, m, taken(other, m.row...))
			checkSameWithin(t, m, grown(other, 3))
		}
		for i := range size { // one number more, or less
			checkSameWithin(t, m, sieve(size, func(k int) bool { return m.has(k) != (k == i) }))
		}
	}
}

// checkSameWithin holds both calls, of two sets, against their models.
func checkSameWithin(t *testing.T, a, b model) {
	t.Helper()
	x, y := a.set(), b.set()
	same := a.size == b.size && slices.Equal(a.row, b.row)
	if bits.Same(x, y) != same || bits.Same(y, x) != same || !bits.Same(x, x) {
		t.Fatalf("Same of %v and %v: %v", a, b, !same)
	}
	in := !slices.ContainsFunc(a.row, func(i int) bool { return !b.has(i) })
	if bits.Within(x, y) != in || !bits.Within(x, x) {
		t.Fatalf("Within of %v and %v: %v", a, b, !in)
	}
	if !slices.Equal(x.All(), a.row) || !slices.Equal(y.All(), b.row) {
		t.Fatalf("%v, %v became %v, %v", a, b, x.All(), y.All())
	}
}

// P8.4: two sets that came about in other ways are the same.
func TestSameHowever(t *testing.T) {
	for _, size := range sizes() {
		m := grown(size, 2)
		s := sieve(1001, func(int) bool { return true }).set()
		cut := bits.New(size)
		cut.Join(s)
		cut.Meet(m.set())
		if !bits.Same(cut, m.set()) {
			t.Errorf("%d: %v, not %v", size, cut.All(), m.row)
		}
		cut.Join(s)
		cut.Less(sieve(size, func(i int) bool { return !m.has(i) }).set())
		if !bits.Same(cut, m.set()) {
			t.Errorf("%d: %v, not %v", size, cut.All(), m.row)
		}
	}
}

// P8.5: what is handed in is only read, and not kept.
func TestHandedIn(t *testing.T) {
	back := []int{5, 3, 64, 3, 70, -1, 9, 9, 9}
	was := slices.Clone(back)
	s := bits.Of(70, back[:5]...)
	if !slices.Equal(back, was) {
		t.Errorf("changed: %v", back)
	}
	clear(back)
	check(t, s, taken(70, 3, 5, 64))
	for _, w := range ways() {
		s := bits.Of(70, 1, 2, 69)
		l := []*bits.Set{bits.Of(64, 1, 3), nil, bits.Of(70, 1, 69), bits.Of(3, 2), nil}
		had := slices.Clone(l)
		w.does(s, l[:1]...)
		w.does(s, l[:3]...)
		if !slices.Equal(l, had) {
			t.Errorf("%s: changed: %v", w.name, l)
		}
		check(t, l[0], taken(64, 1, 3))
		check(t, l[2], taken(70, 1, 69))
		check(t, l[3], taken(3, 2))
		stays := s.All()
		for _, o := range []*bits.Set{l[0], l[2]} { // what comes of them later is nothing to s, nor what comes of s to them
			o.Join(bits.Of(70, 0, 4, 5))
			o.Remove(1)
		}
		check(t, s, taken(70, stays...))
		s.Meet(nil)
		check(t, l[0], taken(64, 0, 3, 4, 5))
		check(t, l[2], taken(70, 0, 4, 5, 69))
	}
}

// P8.5: what is answered is new memory, the room behind it included.
func TestAnswers(t *testing.T) {
	for _, size := range sizes() {
		m := grown(size, 2)
		s := m.set()
		a, b := s.All(), s.All()
		a = a[:cap(a)]
		for i := range a {
			a[i] = -7
		}
		if !slices.Equal(b, m.row) {
			t.Fatalf("%d: an answer lies in another one: %v", size, b)
		}
		check(t, s, m)
		s.Less(s)
		if !slices.Equal(b, m.row) {
			t.Fatalf("%d: what comes later lies in an answer: %v", size, b)
		}
	}
}

// P8.6: of sets of one size: what is joined holds both, and has nothing else; what meets is in both; what is left, joined with it, is what was there.
func TestLaws(t *testing.T) {
	for _, size := range sizes() {
		for seed := range uint64(25) {
			a, b := grown(size, seed/5).set(), grown(size, seed%5+50).set()
			join, meet, less := a.Copy(), a.Copy(), a.Copy()
			more, gone, off := join.Join(b), meet.Meet(b), less.Less(b)
			if !bits.Within(a, join) || !bits.Within(b, join) || join.Len() != a.Len()+more {
				t.Fatalf("%d, %d: joined: %v", size, seed, join.All())
			}
			for _, i := range join.All() {
				if !a.Has(i) && !b.Has(i) {
					t.Fatalf("%d, %d: joined: %d", size, seed, i)
				}
			}
			if !bits.Within(meet, a) || !bits.Within(meet, b) || meet.Len() != a.Len()-gone || join.Len()+meet.Len() != a.Len()+b.Len() {
				t.Fatalf("%d, %d: meets: %v", size, seed, meet.All())
			}
			if !bits.Within(less, a) || less.Len() != a.Len()-off || off != meet.Len() || less.Join(meet) != off || !bits.Same(less, a) {
				t.Fatalf("%d, %d: left: %v", size, seed, less.All())
			}
		}
	}
}

// Two sets have nothing of each other, and what is asked of one is answered alike each time.
func TestApart(t *testing.T) {
	a, b := bits.New(70), bits.New(70)
	a.Add(69)
	check(t, b, model{size: 70})
	b.Add(1)
	check(t, a, taken(70, 69))
	for range 20 {
		if c := bits.Of(70, 69); !bits.Same(a, c) || !bits.Within(c, a) {
			t.Fatalf("%v", c.All())
		}
	}
}
