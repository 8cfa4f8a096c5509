package ramp

import (
	"shambles/api"
	"shambles/sets"
)

// set is a set of carts, a bit for each of them.
type set uint

func setOf(cart int) set { return sets.Of[set](cart) }

// allOf returns the set of all carts of a valid yard.
func allOf(y api.Yard) set { return 1<<len(y.Carts) - 1 }

func (s set) has(cart int) bool { return sets.Has(s, cart) }

func (s set) list() []int { return sets.List(s) }

func (s set) fewestFirst(t set) int { return sets.FewestFirst(s, t) }

func (s set) mostFirst(t set) int { return sets.MostFirst(s, t) }
