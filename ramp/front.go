package ramp

import (
	"iter"
	"maps"

	"shambles/api"
)

// stand is a ramp at work: the carts on it, and the best service for each set of carts that it can serve. A ramp that there is not can serve none.
type stand struct {
	carts set
	best  map[set]service
}

// front is all ramps at work.
type front [api.MaxRamps]stand

// frontOf returns the ramps of a valid yard, without carts yet; all carts have to be away by a minute. Of several services of a ramp it knows the first one by an order.
func frontOf(y api.Yard, until int, order func(s, t service) int) front {
	var f front
	for ramp := range y.Ramps {
		f[ramp].best = dockOf(y, ramp, until).best(order)
	}
	return f
}

// service returns the service of all carts that are on the ramps.
func (f front) service() service {
	var all service
	for _, s := range f {
		all = all.with(s.best[s.carts])
	}
	return all
}

// services hands out the best services of carts, one for each way to share them among the ramps.
func (f front) services(carts set) iter.Seq[service] {
	return func(yield func(service) bool) {
		var share func(f front, left []int) bool
		share = func(f front, left []int) bool {
			if len(left) == 0 {
				return yield(f.service())
			}
			for ramp := range f {
				now := f
				now[ramp].carts |= setOf(left[0])
				// Of carts that a ramp cannot serve it cannot serve more either.
				if _, ok := now[ramp].best[now[ramp].carts]; ok && !share(now, left[1:]) {
					return false
				}
			}
			return true
		}
		share(f, carts.list())
	}
}

// firstService returns the first service of all carts of a valid yard by an order, if all of them have to be away by a minute, and whether there is one.
func firstService(y api.Yard, until int, order func(s, t service) int) (service, bool) {
	return first(frontOf(y, until, order).services(allOf(y)), order)
}

// served returns of each set of carts of a valid yard whether they can be served together.
func served(y api.Yard) map[set]bool {
	f := frontOf(y, api.MaxDawn, service.sooner)
	known := map[set]bool{}
tries:
	for carts := range allOf(y) + 1 {
		for range f.services(carts) {
			known[carts] = true
			continue tries
		}
		known[carts] = false
	}
	return known
}

// firstServed returns the first set by an order of those that can be served together, or of those that cannot, and whether there is one.
func firstServed(y api.Yard, can bool, order func(s, t set) int) (set, bool) {
	known := served(y)
	maps.DeleteFunc(known, func(_ set, ok bool) bool { return ok != can })
	return first(maps.Keys(known), order)
}
