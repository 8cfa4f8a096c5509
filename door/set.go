package door

import "shambles/sets"

// set is a set of halls, a bit for each of them.
type set uint

// The halls that there may be, and all of them.
const (
	first set = 1 << iota
	second
	third
	fourth
	all = first | second | third | fourth
)

func (s set) has(hall int) bool { return sets.Has(s, hall) }
