package trace

import "shambles/sets"

// set is a set of batches, a bit for each of them.
type set uint

func setOf(batches ...int) set { return sets.Of[set](batches...) }

// where returns the set of the batches of which something is so, told by what a list has of them.
func where[T any](list []T, so func(batch int, what T) bool) set {
	var s set
	for batch, what := range list {
		if so(batch, what) {
			s |= setOf(batch)
		}
	}
	return s
}
