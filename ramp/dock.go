package ramp

import (
	"iter"

	"shambles/api"
)

// dock is a ramp of a valid yard, with the carts that may stand on it; they have to be away by a minute.
type dock struct {
	yard   api.Yard
	number int
	carts  []int
	until  int
}

func dockOf(y api.Yard, number, until int) dock {
	r := y.Ramps[number]
	d := dock{yard: y, number: number, until: min(r.Shut, until)}
	for cart, c := range y.Carts {
		if checkStand(c, number, r) == api.OK {
			d.carts = append(d.carts, cart)
		}
	}
	return d
}

// next returns a service with one more cart, which comes behind the others as soon as it can, and whether that serves it.
func (d dock) next(s service, cart int) (service, bool) {
	c := d.yard.Carts[cart]
	from := max(c.From, d.yard.Ramps[d.number].Open)
	if s.carts != 0 {
		from = max(from, s.away+d.yard.Sweep)
	}
	s.carts |= setOf(cart)
	s.slots[cart] = api.Slot{Ramp: d.number, From: from}
	s.away = from + c.Takes.Hi
	return s, s.away <= min(c.Until, d.until)
}

// orders hands out the services of all orders in which carts can be served, one after another. In a given order no service has a cart come sooner than when each one comes as soon as it can.
func (d dock) orders() iter.Seq[service] {
	return func(yield func(service) bool) {
		var serve func(s service) bool
		serve = func(s service) bool {
			if !yield(s) {
				return false
			}
			for _, cart := range d.carts {
				if s.carts.has(cart) {
					continue
				}
				if next, ok := d.next(s, cart); ok && !serve(next) {
					return false
				}
			}
			return true
		}
		serve(service{})
	}
}

// best returns the first service by an order for each set of carts that the dock can serve.
func (d dock) best(order func(s, t service) int) map[set]service {
	known := map[set]service{}
	for s := range d.orders() {
		if t, ok := known[s.carts]; !ok || order(s, t) < 0 {
			known[s.carts] = s
		}
	}
	return known
}
