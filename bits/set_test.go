package bits_test

import (
	"math"
	"math/rand/v2"
	"slices"
	"testing"

	"alibi/bits"
)

// P8.1 to P8.3: the chapter's examples.
func TestExample(t *testing.T) {
	of := func() *bits.Set { return bits.Of(70, 3, 69, 70, -1, 3) }
	s := of()
	if n, l := s.Len(), s.All(); n != 2 || !slices.Equal(l, []int{3, 69}) {
		t.Errorf("%d, %v", n, l)
	}
	if i, ok := s.Next(4); i != 69 || !ok {
		t.Errorf("Next(4): %d, %v", i, ok)
	}
	if i, ok := s.Next(70); i != 0 || ok {
		t.Errorf("Next(70): %d, %v", i, ok)
	}
	got := []bool{s.Add(3), s.Add(64), s.Add(70), s.Remove(3), s.Remove(3)}
	if !slices.Equal(got, []bool{false, true, false, true, false}) {
		t.Errorf("%v", got)
	}
	if n := s.Join(bits.Of(100, 64, 5, 99)); n != 1 || !slices.Equal(s.All(), []int{5, 64, 69}) {
		t.Errorf("behind those: %d, %v", n, s.All())
	}
	s = of()
	if n := s.Join(bits.Of(100, 64, 5, 99)); n != 2 || !slices.Equal(s.All(), []int{3, 5, 64, 69}) {
		t.Errorf("at once: %d, %v", n, s.All())
	}
}

// Of a nil set nothing is told, and nothing can be taken into it.
func TestNil(t *testing.T) {
	var none *bits.Set
	full := bits.Of(3, 0, 1, 2)
	for range 2 {
		if none.Size() != 0 || none.Len() != 0 || len(none.All()) != 0 || none.Copy() != nil {
			t.Errorf("%d, %d, %v, %v", none.Size(), none.Len(), none.All(), none.Copy())
		}
		for _, i := range append(nowhere(), 0, 1, 63, 64) {
			if none.Has(i) || none.Add(i) || none.Remove(i) {
				t.Errorf("%d", i)
			}
			if n, ok := none.Next(i); n != 0 || ok {
				t.Errorf("Next(%d): %d, %v", i, n, ok)
			}
		}
		for i, l := range [][]*bits.Set{nil, {}, {nil}, {full}, {full, nil, bits.New(0)}, {none, full}} {
			if none.Join(l...) != 0 || none.Meet(l...) != 0 || none.Less(l...) != 0 {
				t.Errorf("%d", i)
			}
		}
		check(t, full, taken(3, 0, 1, 2))
	}
}

// A zero set is one of size 0.
func TestZero(t *testing.T) {
	var zero bits.Set
	for i, s := range []*bits.Set{&zero, new(bits.Set), zero.Copy(), bits.New(0), bits.Of(0, 0, 1, -1), bits.New(0).Copy()} {
		check(t, s, model{})
		if s.Add(0) || s.Remove(0) || s.Join(bits.Of(5, 0, 4)) != 0 || s.Meet(nil) != 0 || s.Less(s) != 0 {
			t.Errorf("%d", i)
		}
		check(t, s, model{})
		if !bits.Same(s, nil) || !bits.Same(nil, s) || !bits.Same(s, &zero) || bits.Same(s, bits.New(1)) {
			t.Errorf("%d: Same", i)
		}
	}
}

// P8.1: sizes that are asked for, and those that are there.
func TestSizes(t *testing.T) {
	for _, n := range sizes() {
		check(t, bits.New(n), model{size: n})
	}
	for _, n := range []int{-1, -5, -64, math.MinInt, math.MinInt32, math.MinInt + 1} {
		check(t, bits.New(n), model{})
		check(t, bits.Of(n, 0, n, -n, 1), model{})
	}
	const most = bits.MaxSize
	if most != 65536 {
		t.Errorf("MaxSize: %d", most)
	}
	for asked, size := range map[int]int{most - 1: most - 1, most: most, most + 1: most, most + 64: most, 1 << 32: most, 1 << 40: most, math.MaxInt: most, math.MaxInt - 62: most} {
		s := bits.Of(asked, most-2, most-1, most, most+1)
		if s.Size() != size || bits.New(asked).Size() != size || bits.New(asked).Len() != 0 {
			t.Errorf("%d: %d, %d", asked, s.Size(), bits.New(asked).Size())
		}
		if s.Len() != size-most+2 || !s.Has(most-2) || s.Has(most-1) != (size == most) || s.Has(most) || s.Has(most+1) {
			t.Errorf("%d: %v", asked, s.All())
		}
		if s.Add(size) || !s.Add(0) || !s.Remove(size-1) || s.Remove(size) {
			t.Errorf("%d: Add, Remove", asked)
		}
	}
}

// P8.1: Of takes in what can be, in any order, once.
func TestOf(t *testing.T) {
	for _, size := range sizes() {
		check(t, bits.Of(size), taken(size))
		check(t, bits.Of(size, nil...), taken(size))
		check(t, bits.Of(size, nowhere()...), taken(size))
		check(t, bits.Of(size, size, size+1, -size, size+64), taken(size))
		l := append(nowhere(), size-1, 0, size-1, size, size/2, 64, 63, 0, 127, 128)
		check(t, bits.Of(size, l...), taken(size, l...))
		slices.Reverse(l)
		check(t, bits.Of(size, l...), taken(size, l...))
	}
	for size := range 6 {
		for _, m := range all(size) {
			check(t, m.set(), m)
			back := slices.Clone(m.row)
			slices.Reverse(back)
			check(t, bits.Of(size, append(back, m.row...)...), m)
		}
	}
}

// P8.2: Add and Remove of each number, at and around the edges of words, and what they answer.
func TestEachNumber(t *testing.T) {
	for _, size := range sizes() {
		s := bits.New(size)
		for _, i := range append(nowhere(), size, size+1, size+63, size+64) {
			if s.Add(i) || s.Remove(i) {
				t.Fatalf("%d: %d", size, i)
			}
		}
		check(t, s, model{size: size})
		for i := range size {
			if s.Remove(i) || !s.Add(i) || s.Add(i) || s.Len() != i+1 {
				t.Fatalf("%d: Add(%d)", size, i)
			}
		}
		check(t, s, sieve(size, func(int) bool { return true }))
		for _, i := range append(nowhere(), size, size+1, size+63, size+64) {
			if s.Add(i) || s.Remove(i) {
				t.Fatalf("%d: %d", size, i)
			}
		}
		for i := range size {
			if s.Add(i) || !s.Remove(i) || s.Remove(i) || s.Len() != size-i-1 {
				t.Fatalf("%d: Remove(%d)", size, i)
			}
		}
		check(t, s, model{size: size})
	}
	for _, size := range []int{64, 65, 130} { // one alone: no other number comes or goes with it
		for i := range size {
			s := bits.New(size)
			s.Add(i)
			check(t, s, taken(size, i))
			full := sieve(size, func(int) bool { return true }).set()
			full.Remove(i)
			check(t, full, sieve(size, func(k int) bool { return k != i }))
		}
	}
}

// P8.2: sets that numbers come to and go from.
func TestComeAndGo(t *testing.T) {
	for seed, size := range sizes() {
		r := rand.New(rand.NewPCG(82, uint64(seed)))
		s, in := bits.New(size), map[int]bool{}
		for step := range 400 {
			i := r.IntN(size+6) - 3
			can := i >= 0 && i < size
			if r.IntN(3) > 0 {
				if s.Add(i) != (can && !in[i]) {
					t.Fatalf("%d, %d: Add(%d)", size, step, i)
				}
				in[i] = can
			} else {
				if s.Remove(i) != in[i] {
					t.Fatalf("%d, %d: Remove(%d)", size, step, i)
				}
				in[i] = false
			}
			if step%20 == 19 {
				check(t, s, sieve(size, func(i int) bool { return in[i] }))
			}
		}
	}
}

// P8.2: Next and All, of numbers that lie far from each other, in the greatest set that there is.
func TestFar(t *testing.T) {
	const most = bits.MaxSize
	l := []int{0, 63, 64, 4095, 4096, 32768, most - 65, most - 64, most - 1}
	s := bits.Of(most, l...)
	if !slices.Equal(s.All(), l) || s.Len() != len(l) {
		t.Errorf("%v", s.All())
	}
	from := 0
	for k, want := range l {
		for _, i := range []int{from, (from + want) / 2, want - 1, want} {
			if i >= from {
				checkNext(t, s, i, l[k:])
			}
		}
		from = want + 1
	}
	for _, i := range []int{most, most + 1, most + 64, 2 * most, math.MaxInt} {
		checkNext(t, s, i, nil)
	}
	for _, i := range []int{-1, -64, -most, math.MinInt} {
		checkNext(t, s, i, l)
	}
	checkNext(t, bits.New(most), 0, nil)
	full := bits.New(most)
	for i := range most {
		if !full.Add(i) {
			t.Fatalf("%d", i)
		}
	}
	if full.Len() != most || len(full.All()) != most || full.Less(s) != len(l) || full.Len() != most-len(l) {
		t.Errorf("%d", full.Len())
	}
}

// P8.6: Len is how many All has, and Next tells just All.
func TestNextTellsAll(t *testing.T) {
	for _, size := range sizes() {
		for seed := range uint64(10) {
			m := grown(size, seed)
			s := m.set()
			check(t, s, m)
			var l []int
			for i, ok := s.Next(0); ok; i, ok = s.Next(i + 1) {
				l = append(l, i)
			}
			if !slices.Equal(l, s.All()) || len(l) != s.Len() || !slices.Equal(l, m.row) {
				t.Fatalf("%d, %d: %v, not %v", size, seed, l, m.row)
			}
		}
	}
}
