// Package sets has what layers share of sets of numbers from 0 on. A layer keeps such sets in an integer type of its own, a bit for each number.
package sets

import (
	"cmp"
	"math/bits"
	"slices"
)

// Bits is the integer types for sets.
type Bits interface{ ~uint }

// Of returns the set of some numbers.
func Of[S Bits](numbers ...int) S {
	var s S
	for _, n := range numbers {
		s |= 1 << n
	}
	return s
}

// Has says whether a number is in a set.
func Has[S Bits](s S, number int) bool { return s&Of[S](number) != 0 }

// List returns the numbers of a set, ascending.
func List[S Bits](s S) []int {
	var list []int
	for n := range bits.Len(uint(s)) {
		if Has(s, n) {
			list = append(list, n)
		}
	}
	return list
}

// FewestFirst compares two sets: the one with fewer numbers comes first; of two with as many the one whose list comes first in lexicographic order.
func FewestFirst[S Bits](s, t S) int {
	a, b := List(s), List(t)
	return cmp.Or(cmp.Compare(len(a), len(b)), slices.Compare(a, b))
}

// MostFirst compares two sets: the one with more numbers comes first; of two with as many the one whose list comes first in lexicographic order.
func MostFirst[S Bits](s, t S) int {
	a, b := List(s), List(t)
	return cmp.Or(cmp.Compare(len(b), len(a)), slices.Compare(a, b))
}
