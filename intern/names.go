package intern

import (
	"maps"
	"slices"

	"alibi/api"
)

// names has names of one kind, by their numbers, and their numbers by them.
type names[K comparable] struct {
	list    []K
	numbers map[K]int
}

// add gives numbers to those names of l that have none, and tells the last one's; -1, if l is empty.
func (s *names[K]) add(l ...K) int {
	last := -1
	for _, name := range l {
		n, ok := s.find(name)
		if !ok {
			n = s.put(name)
		}
		last = n
	}
	return last
}

// put gives the next number to a name that has none.
func (s *names[K]) put(name K) int {
	if s.numbers == nil { // a zero table has no map yet
		s.numbers = map[K]int{}
	}
	n := len(s.list)
	s.list = append(s.list, name)
	s.numbers[name] = n
	return n
}

// find is a name's number, and whether it has one.
func (s *names[K]) find(name K) (int, bool) {
	n, ok := s.numbers[name]
	return n, ok
}

// name is a number's name.
func (s *names[K]) name(n int) (K, api.Errno) {
	if n < 0 || n >= len(s.list) {
		var none K
		return none, api.ErrNone
	}
	return s.list[n], api.OK
}

// rising are the numbers, as compare has their names rise.
func (s *names[K]) rising(compare func(a, b K) int) []int {
	l := make([]int, len(s.list))
	for n := range l {
		l[n] = n
	}
	slices.SortFunc(l, func(a, b int) int { return compare(s.list[a], s.list[b]) })
	return l
}

// apart are the same names, in new memory.
func (s *names[K]) apart() names[K] {
	return names[K]{slices.Clone(s.list), maps.Clone(s.numbers)}
}
