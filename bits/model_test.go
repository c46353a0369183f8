package bits_test

import (
	"math"
	"math/rand/v2"
	"slices"
	"testing"

	"alibi/bits"
)

// What the tests have of sets: rows of numbers, and what the chapter's words alone say of them, number by number.

// model is a set, as a size and a row of numbers that rise.
type model struct {
	size int
	row  []int
}

// sizes are those at which something might turn.
func sizes() []int {
	return []int{0, 1, 2, 7, 31, 32, 33, 63, 64, 65, 127, 128, 129, 130, 191, 192, 193, 256, 1000}
}

// nowhere are numbers that are in no set, whatever its size.
func nowhere() []int {
	return []int{-1, -2, -63, -64, -65, -128, -65536, math.MinInt32, math.MinInt, math.MinInt + 1, math.MinInt + 63, bits.MaxSize, bits.MaxSize + 1, bits.MaxSize + 64, 1 << 20, 1 << 32, 1<<32 + 1, 1 << 40, math.MaxInt32, math.MaxInt - 64, math.MaxInt - 1, math.MaxInt}
}

// sieve is the model of that size that has those numbers for which has holds.
func sieve(size int, has func(i int) bool) model {
	m := model{size: size}
	for i := range size {
		if has(i) {
			m.row = append(m.row, i)
		}
	}
	return m
}

// taken is the model of what Of(size, l) must be; the size is one that may be.
func taken(size int, l ...int) model {
	return sieve(size, func(i int) bool { return slices.Contains(l, i) })
}

func (m model) has(i int) bool { return slices.Contains(m.row, i) }

// set is the model's set.
func (m model) set() *bits.Set { return bits.Of(m.size, m.row...) }

// joined, met, left are what is to come of a model and others.
func (m model) joined(l ...model) model {
	return sieve(m.size, func(i int) bool {
		return m.has(i) || slices.ContainsFunc(l, func(o model) bool { return o.has(i) })
	})
}

func (m model) met(l ...model) model {
	return sieve(m.size, func(i int) bool {
		return m.has(i) && !slices.ContainsFunc(l, func(o model) bool { return !o.has(i) })
	})
}

func (m model) left(l ...model) model {
	return sieve(m.size, func(i int) bool {
		return m.has(i) && !slices.ContainsFunc(l, func(o model) bool { return o.has(i) })
	})
}

// grown is a model of that size, with few, half, or most of the numbers, or a long run of them; the same one each time.
func grown(size int, seed uint64) model {
	r := rand.New(rand.NewPCG(8, seed))
	if seed%5 == 4 {
		from := r.IntN(size + 1)
		to := from + r.IntN(size-from+1)
		return sieve(size, func(i int) bool { return from <= i && i < to })
	}
	part := []float64{0, 0.03, 0.5, 0.97}[seed%5]
	return sieve(size, func(int) bool { return r.Float64() < part })
}

// all are all models of that size.
func all(size int) []model {
	var l []model
	for mask := range 1 << size {
		l = append(l, sieve(size, func(i int) bool { return mask>>i&1 == 1 }))
	}
	return l
}

// check holds all that may be asked of a set against its model; what is asked changes nothing.
func check(t *testing.T, s *bits.Set, m model) {
	t.Helper()
	if s == nil {
		t.Fatal("nil")
	}
	for range 2 {
		if s.Size() != m.size || s.Len() != len(m.row) || !slices.Equal(s.All(), m.row) {
			t.Fatalf("size %d, %d numbers, %v; not %d, %d, %v", s.Size(), s.Len(), s.All(), m.size, len(m.row), m.row)
		}
	}
	in, behind := make([]bool, m.size), 0 // behind: how many of the row are below i
	for _, i := range m.row {
		in[i] = true
	}
	for i := range m.size {
		if s.Has(i) != in[i] {
			t.Fatalf("Has(%d): %v, of %v", i, s.Has(i), m.row)
		}
		checkNext(t, s, i, m.row[behind:])
		if in[i] {
			behind++
		}
	}
	for _, i := range append(nowhere(), m.size, m.size+1, m.size+62, m.size+63, m.size+64, m.size+65) {
		if s.Has(i) {
			t.Fatalf("Has(%d), of size %d", i, m.size)
		}
		if i < 0 {
			checkNext(t, s, i, m.row)
		} else {
			checkNext(t, s, i, nil)
		}
	}
}

// checkNext holds Next(i) against the numbers that are not below i.
func checkNext(t *testing.T, s *bits.Set, i int, rest []int) {
	t.Helper()
	want, there := 0, len(rest) > 0
	if there {
		want = rest[0]
	}
	if n, ok := s.Next(i); n != want || ok != there {
		t.Fatalf("Next(%d): %d, %v; not %d, %v", i, n, ok, want, there)
	}
}
