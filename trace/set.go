package trace

import (
	"cmp"
	"slices"
)

// set is a set of batches, a bit for each of them.
type set uint

func setOf(batches ...int) set {
	var s set
	for _, batch := range batches {
		s |= 1 << batch
	}
	return s
}

// where returns the set of the batches of which something is so, told by what a list has of them.
func where[T any](list []T, so func(batch int, what T) bool) set {
	var s set
	for batch, what := range list {
		if so(batch, what) {
			s |= setOf(batch)
		}
	}
	return s
}

func (s set) has(batch int) bool { return s&setOf(batch) != 0 }

// list returns the batches of a set, ascending.
func (s set) list() []int {
	var batches []int
	for batch := 0; s>>batch > 0; batch++ {
		if s.has(batch) {
			batches = append(batches, batch)
		}
	}
	return batches
}

// before says whether s has fewer batches than t, or as many and its list comes first.
func (s set) before(t set) bool {
	a, b := s.list(), t.list()
	return cmp.Or(cmp.Compare(len(a), len(b)), slices.Compare(a, b)) < 0
}
