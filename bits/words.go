package bits

import (
	"iter"
	"math/bits"
)

// digits is how many digits a word has: one for each number, the least one's the lowest.
const digits = 64

// digit is a number's, in its word.
func digit(i int) uint64 {
	return 1 << (i % digits)
}

// below are the lowest n digits of a word: none, if n is below 0; all, if it has no more.
func below(n int) uint64 {
	return 1<<max(n, 0) - 1 // at 64 the one is gone, and it wraps round to all digits
}

// least is the least number of the word at p, which has one.
func least(p int, w uint64) int {
	return p*digits + bits.TrailingZeros64(w)
}

// words are the set's words, from the one at that place on, with their places.
func (s *Set) words(from int) iter.Seq2[int, uint64] {
	return func(yield func(int, uint64) bool) {
		if s == nil {
			return
		}
		for p := from; p < len(s.row); p++ {
			if !yield(p, s.row[p]) {
				return
			}
		}
	}
}

// word is the one at p: behind the set's end there is nothing.
func (s *Set) word(p int) uint64 {
	if s == nil || p >= len(s.row) {
		return 0
	}
	return s.row[p]
}

// change has each word become what does tells of it and of these sets' words there, one by one, and tells how many digits differ then.
func (s *Set) change(does func(a, b uint64) uint64, l ...*Set) int {
	n := 0
	for p, was := range s.words(0) {
		w := was
		for _, other := range l {
			w = does(w, other.word(p))
		}
		w &= below(s.size - p*digits) // a greater set may have numbers here that this one can't take in
		n += bits.OnesCount64(w ^ was)
		s.row[p] = w
	}
	return n
}
