package intern_test

import (
	"cmp"
	"math"
	"math/rand/v2"
	"slices"
	"testing"

	"alibi/api"
	"alibi/intern"
)

// What the tests have of names' words: rows of names, and their numbers by the words of the chapter alone.

const top = uint64(math.MaxUint64)

// edges are names at which something might turn.
func edges() []uint64 {
	return []uint64{0, 1, 2, 3, 4, 127, 128, 255, 256, 1<<31 - 1, 1 << 31, 1<<32 - 1, 1 << 32, 1<<63 - 1, 1 << 63, top - 1, top}
}

// places are numbers that name nothing, whatever names there are.
func places() []int {
	return []int{-1, -2, -300, math.MinInt, math.MinInt + 1, math.MinInt32, math.MaxInt, math.MaxInt - 1, math.MaxInt32, 1 << 32, -1 << 32}
}

// pair is a pair of names.
func pair(a, b uint64) intern.Pair { return intern.Pair{A: a, B: b} }

// grown is a row of so many names, of few or of all; the same one each time.
func grown(many int, seed uint64) []uint64 {
	r := rand.New(rand.NewPCG(7, seed))
	l := make([]uint64, many)
	for i := range l {
		switch r.IntN(3) {
		case 0:
			l[i] = r.Uint64N(8)
		case 1:
			l[i] = edges()[r.IntN(len(edges()))]
		default:
			l[i] = r.Uint64() >> r.IntN(64)
		}
	}
	return l
}

// paired are pairs of what stands side by side in two rows.
func paired(a, b []uint64) []intern.Pair {
	var l []intern.Pair
	for i := range min(len(a), len(b)) {
		l = append(l, pair(a[i], b[i]))
	}
	return l
}

// once are the names of l, each at the place of its number: it comes where it is first told.
func once[K comparable](l []K) []K {
	var have []K
	for _, name := range l {
		if !slices.Contains(have, name) {
			have = append(have, name)
		}
	}
	return have
}

// last is the number of l's last name, where the names of have are numbered.
func last[K comparable](have, l []K) int {
	if len(l) == 0 {
		return -1
	}
	return slices.Index(have, l[len(l)-1])
}

// greater tells whether a name rises above another one.
func greater(a, b uint64) bool { return a > b }

// above tells whether a pair rises above another one.
func above(a, b intern.Pair) bool {
	return a.A > b.A || a.A == b.A && a.B > b.B
}

// risen are the numbers of have's names, by the names: of each number, its place is how many are below.
func risen[K comparable](have []K, above func(a, b K) bool) []int {
	l := make([]int, len(have))
	for n, name := range have {
		below := 0
		for _, other := range have {
			if above(name, other) {
				below++
			}
		}
		l[below] = n
	}
	return l
}

// rows are all rows of so many of the first few numbers.
func rows(many, few int) [][]int {
	l := [][]int{nil}
	for range many {
		var longer [][]int
		for _, row := range l {
			for i := range few {
				longer = append(longer, append(slices.Clone(row), i))
			}
		}
		l = longer
	}
	return l
}

// named are the names at these places.
func named[K any](row []int, of []K) []K {
	var l []K
	for _, i := range row {
		l = append(l, of[i])
	}
	return l
}

// table is what both kinds of tables answer, of names of their kind.
type table[K comparable] interface {
	Find(name K) (int, bool)
	Name(n int) (K, api.Errno)
	Rising() []int
	Len() int
}

// checkNames asks of a table whether it has just the names of have, and none of the others.
func checkNames[K comparable](t *testing.T, x table[K], have, others []K, above func(a, b K) bool) {
	t.Helper()
	if n := x.Len(); n != len(have) {
		t.Fatalf("%d names, not %v", n, have)
	}
	if l, want := x.Rising(), risen(have, above); !slices.Equal(l, want) {
		t.Fatalf("Rising of %v: %v, not %v", have, l, want)
	}
	for n, name := range have {
		if got, ok := x.Find(name); got != n || !ok {
			t.Fatalf("Find(%v) in %v: %d, %v", name, have, got, ok)
		}
		if got, e := x.Name(n); got != name || e != api.OK {
			t.Fatalf("Name(%d) of %v: %v, %d", n, have, got, e)
		}
	}
	for _, name := range others {
		if n, ok := x.Find(name); !slices.Contains(have, name) && (n != 0 || ok) {
			t.Fatalf("Find(%v) in %v: %d, %v", name, have, n, ok)
		}
	}
	var zero K
	for _, n := range append(places(), len(have), len(have)+1) {
		if name, e := x.Name(n); name != zero || e != api.ErrNone {
			t.Fatalf("Name(%d) of %v: %v, %d", n, have, name, e)
		}
	}
}

// checkTable asks of a table, twice, whether it has just the names of have: to ask changes nothing.
func checkTable(t *testing.T, x *intern.Table, have []uint64) {
	t.Helper()
	for range 2 {
		if l := x.Names(); !slices.Equal(l, have) {
			t.Fatalf("%v, not %v", l, have)
		}
		checkNames(t, x, have, edges(), greater)
	}
}

// checkPairs asks of a pair table, twice, whether it has just the pairs of have.
func checkPairs(t *testing.T, x *intern.Pairs, have []intern.Pair) {
	t.Helper()
	var others []intern.Pair
	for _, a := range []uint64{0, 1, 2, 3, top} {
		for _, b := range []uint64{0, 1, 2, 3, top} {
			others = append(others, pair(a, b))
		}
	}
	for range 2 {
		checkNames(t, x, have, others, above)
	}
}

// byName compares numbers by the names that they have.
func byName(have []uint64) func(a, b int) int {
	return func(a, b int) int { return cmp.Compare(have[a], have[b]) }
}
