package sets_test

import (
	"slices"
	"testing"

	"shambles/sets"
)

type numbers uint

func TestMembers(t *testing.T) {
	for _, list := range [][]int{nil, {0}, {1}, {0, 1}, {2, 5, 7}, {0, 1, 2, 3, 4, 5, 6, 7}, {31}} {
		s := sets.Of[numbers](list...)
		if got := sets.List(s); !slices.Equal(got, list) {
			t.Error(list, got)
		}
		for n := range 32 {
			if sets.Has(s, n) != slices.Contains(list, n) {
				t.Error(list, n)
			}
		}
	}
	if s := sets.Of[numbers](5, 1, 5); s != 1<<1|1<<5 {
		t.Error(s)
	}
}

func TestOrder(t *testing.T) {
	// All sets of three numbers, in both orders.
	fewest := [][]int{nil, {0}, {1}, {2}, {0, 1}, {0, 2}, {1, 2}, {0, 1, 2}}
	most := [][]int{{0, 1, 2}, {0, 1}, {0, 2}, {1, 2}, {0}, {1}, {2}, nil}
	for _, c := range []struct {
		order   [][]int
		compare func(s, t numbers) int
	}{{fewest, sets.FewestFirst[numbers]}, {most, sets.MostFirst[numbers]}} {
		for i, a := range c.order {
			for j, b := range c.order {
				got := c.compare(sets.Of[numbers](a...), sets.Of[numbers](b...))
				if (got < 0) != (i < j) || (got == 0) != (i == j) {
					t.Error(a, b, got)
				}
			}
		}
	}
}
