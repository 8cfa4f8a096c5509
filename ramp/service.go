package ramp

import (
	"cmp"
	"iter"
	"slices"

	"shambles/api"
)

// service is a plan that serves some carts, and the minute in which the last one is away if all of them take as long as they may.
type service struct {
	carts set
	// Carts that are not served have no slot here.
	slots [api.MaxCarts]api.Slot
	away  int
}

// with returns the service of the carts of both; the ramps of s are others than those of t.
func (s service) with(t service) service {
	for _, cart := range t.carts.list() {
		s.slots[cart] = t.slots[cart]
	}
	s.carts |= t.carts
	s.away = max(s.away, t.away)
	return s
}

// sooner compares two services by when the last cart is away.
func (s service) sooner(t service) int { return cmp.Compare(s.away, t.away) }

// before compares two services of the same carts by their slots.
func (s service) before(t service) int {
	return slices.CompareFunc(s.slots[:], t.slots[:], func(a, b api.Slot) int {
		return cmp.Or(cmp.Compare(a.Ramp, b.Ramp), cmp.Compare(a.From, b.From))
	})
}

// first returns the first one of some things by an order, and whether there is one.
func first[T any](things iter.Seq[T], order func(a, b T) int) (T, bool) {
	var best T
	found := false
	for thing := range things {
		if !found || order(thing, best) < 0 {
			best, found = thing, true
		}
	}
	return best, found
}
