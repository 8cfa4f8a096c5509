package ramp_test

import (
	"iter"
	"math/rand/v2"
	"slices"
	"testing"

	"shambles/api"
	"shambles/ramp"
)

func span(low, high int) api.Span { return api.Span{Lo: low, Hi: high} }

// on is a plan of ramps and minutes.
func on(numbers ...int) []api.Slot {
	var plan []api.Slot
	for pair := range slices.Chunk(numbers, 2) {
		plan = append(plan, api.Slot{Ramp: pair[0], From: pair[1]})
	}
	return plan
}

// yard is the yard Y of the chapter's examples.
func yard() api.Yard {
	return api.Yard{
		Ramps: []api.Ramp{{Open: 0, Shut: 60, Bears: 900}, {Open: 10, Shut: 40, Bears: 500}},
		Carts: []api.Cart{
			{From: 0, Until: 40, Takes: span(15, 20), Grams: 800, Ramps: []int{0, 1}},
			{From: 0, Until: 60, Takes: span(20, 25), Grams: 400, Ramps: []int{0, 1}},
			{From: 5, Until: 60, Takes: span(20, 30), Grams: 300, Ramps: []int{0}},
		},
		Sweep: 5,
	}
}

// changed is the yard Y with a change.
func changed(change func(y *api.Yard)) api.Yard {
	y := yard()
	change(&y)
	return y
}

// full is a yard with as much as there may be of everything.
func full() api.Yard {
	r := api.Ramp{Open: 100, Shut: 480, Bears: 1000000}
	y := api.Yard{Ramps: []api.Ramp{r, r, r}, Sweep: 480}
	for range 7 {
		y.Carts = append(y.Carts, api.Cart{From: 100, Until: 480, Takes: span(100, 480), Grams: 1000000, Ramps: []int{0, 1, 2}})
	}
	return y
}

// wide is a yard with three ramps that are open all the time, and seven carts that take up to so many minutes and may come at any time.
func wide(takes ...int) api.Yard {
	r := api.Ramp{Shut: 480}
	y := api.Yard{Ramps: []api.Ramp{r, r, r}}
	for _, n := range takes {
		y.Carts = append(y.Carts, api.Cart{Until: 480, Takes: span(1, n), Ramps: []int{0, 1, 2}})
	}
	return y
}

// queue is a yard with one ramp, and carts that take up to so many minutes, until those minutes.
func queue(sweep, takes int, until ...int) api.Yard {
	y := api.Yard{Ramps: []api.Ramp{{Shut: 480}}, Sweep: sweep}
	for _, n := range until {
		y.Carts = append(y.Carts, api.Cart{Until: n, Takes: span(1, takes), Ramps: []int{0}})
	}
	return y
}

// copied shares no memory with y.
func copied(y api.Yard) api.Yard {
	y.Ramps, y.Carts = slices.Clone(y.Ramps), slices.Clone(y.Carts)
	for i := range y.Carts {
		y.Carts[i].Ramps = slices.Clone(y.Carts[i].Ramps)
	}
	return y
}

// same says whether yards are equal; a nil slice is equal to an empty one.
func same(y, z api.Yard) bool {
	return y.Sweep == z.Sweep && slices.Equal(y.Ramps, z.Ramps) && slices.EqualFunc(y.Carts, z.Carts, func(c, d api.Cart) bool {
		return c.From == d.From && c.Until == d.Until && c.Takes == d.Takes && c.Grams == d.Grams && slices.Equal(c.Ramps, d.Ramps)
	})
}

// empty says whether a yard is a zero value.
func empty(y api.Yard) bool { return same(y, api.Yard{}) }

// size is how large yards are at most: ramps, carts, minutes, and how long carts may take.
type size struct{ ramps, carts, dawn, takes int }

// pickYard returns a yard of a size.
func pickYard(r *rand.Rand, s size) api.Yard {
	y := api.Yard{Sweep: r.IntN(s.takes + 1)}
	for range 1 + r.IntN(s.ramps) {
		y.Ramps = append(y.Ramps, api.Ramp{Open: r.IntN(s.dawn/3 + 1), Shut: s.dawn - r.IntN(s.dawn/3+1), Bears: 50 + r.IntN(51)})
	}
	for range r.IntN(s.carts + 1) {
		most := 1 + r.IntN(s.takes)
		c := api.Cart{From: r.IntN(s.dawn/2 + 1), Until: s.dawn - r.IntN(s.dawn/2), Takes: span(1+r.IntN(most), most), Grams: r.IntN(80)}
		for ramp := range y.Ramps {
			if r.IntN(5) > 0 {
				c.Ramps = append(c.Ramps, ramp)
			}
		}
		y.Carts = append(y.Carts, c)
	}
	return y
}

// yards hands out so many yards of a size.
func yards(many int, s size) iter.Seq[api.Yard] {
	return func(yield func(api.Yard) bool) {
		r := rand.New(rand.NewPCG(7, uint64(many)))
		for range many {
			if !yield(pickYard(r, s)) {
				return
			}
		}
	}
}

// only is the yard with these carts alone.
func only(y api.Yard, list []int) api.Yard {
	carts := y.Carts
	y.Carts = nil
	for _, cart := range list {
		y.Carts = append(y.Carts, carts[cart])
	}
	return y
}

// lists hands out all ascending lists of numbers less than many, those with fewer numbers first, and of as many the first ones in lexicographic order.
func lists(many int) [][]int {
	var all [][]int
	for bits := range 1 << many {
		var list []int
		for n := range many {
			if bits>>n&1 == 1 {
				list = append(list, n)
			}
		}
		all = append(all, list)
	}
	slices.SortFunc(all, func(a, b []int) int {
		if len(a) != len(b) {
			return len(a) - len(b)
		}
		return slices.Compare(a, b)
	})
	return all
}

// truths hands out all true times of the first carts of a yard, so many of them.
func truths(y api.Yard, many int) iter.Seq[[]int] {
	return func(yield func([]int) bool) { extend(y, many, nil, yield) }
}

// extend hands out all true times that begin with some.
func extend(y api.Yard, many int, truth []int, yield func([]int) bool) bool {
	if len(truth) == many {
		return yield(truth)
	}
	takes := y.Carts[len(truth)].Takes
	for n := takes.Lo; n <= takes.Hi; n++ {
		if !extend(y, many, append(truth, n), yield) {
			return false
		}
	}
	return true
}

// holdsIn says whether a plan for the first carts holds in a truth.
func holdsIn(y api.Yard, plan []api.Slot, truth []int) bool {
	for a, s := range plan {
		away := s.From + truth[a]
		if s.From < y.Carts[a].From || s.From < y.Ramps[s.Ramp].Open || away > y.Carts[a].Until || away > y.Ramps[s.Ramp].Shut {
			return false
		}
		for b, o := range plan {
			later := o.From > s.From || o.From == s.From && b != a
			if o.Ramp == s.Ramp && later && o.From-away < y.Sweep {
				return false
			}
		}
	}
	return true
}

// serves says whether a plan serves the first carts.
func serves(y api.Yard, plan []api.Slot) bool {
	for truth := range truths(y, len(plan)) {
		if !holdsIn(y, plan, truth) {
			return false
		}
	}
	return true
}

// mayStand says whether a cart may stand on a ramp.
func mayStand(y api.Yard, cart, number int) bool {
	return slices.Contains(y.Carts[cart].Ramps, number) && y.Carts[cart].Grams <= y.Ramps[number].Bears
}

// latest is when the last cart is away if all take as long as they may.
func latest(y api.Yard, plan []api.Slot) int {
	last := 0
	for cart, s := range plan {
		last = max(last, s.From+y.Carts[cart].Takes.Hi)
	}
	return last
}

// servings hands out all plans that serve all carts of a yard, with minutes up to one, in the order of comparison.
func servings(y api.Yard, until int) iter.Seq[[]api.Slot] {
	return func(yield func([]api.Slot) bool) { addSlot(y, until, nil, yield) }
}

// addSlot hands out all plans that serve all carts and begin with some slots. Slots that do not serve the first carts serve no more of them.
func addSlot(y api.Yard, until int, plan []api.Slot, yield func([]api.Slot) bool) bool {
	if !serves(y, plan) {
		return true
	}
	if len(plan) == len(y.Carts) {
		return yield(slices.Clone(plan))
	}
	for number := range y.Ramps {
		if !mayStand(y, len(plan), number) {
			continue
		}
		for from := range until + 1 {
			if !addSlot(y, until, append(plan, api.Slot{Ramp: number, From: from}), yield) {
				return false
			}
		}
	}
	return true
}

// canServe says whether there is a plan that serves all carts of a small yard.
func canServe(y api.Yard, until int) bool {
	for range servings(y, until) {
		return true
	}
	return false
}

// served returns the plan of Serve, and when the last cart is away; ok says whether there is one.
func served(t *testing.T, y api.Yard) (plan []api.Slot, last int, ok bool) {
	t.Helper()
	plan, last, e := ramp.Serve(y)
	if e != api.OK && (e != api.ErrMissing || len(plan) > 0 || last != 0) {
		t.Fatal(y, plan, last, e)
	}
	return plan, last, e == api.OK
}

// stuck returns the carts of Stuck; nil if there are none.
func stuck(t *testing.T, y api.Yard) []int {
	t.Helper()
	list, e := ramp.Stuck(y)
	if e != api.OK && e != api.ErrMissing || (e == api.OK) != (len(list) > 0) {
		t.Fatal(y, list, e)
	}
	return list
}

// most returns the carts of Most.
func most(t *testing.T, y api.Yard) []int {
	t.Helper()
	list, e := ramp.Most(y)
	if e != api.OK {
		t.Fatal(y, list, e)
	}
	return list
}
