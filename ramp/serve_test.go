package ramp_test

import (
	"slices"
	"testing"

	"shambles/api"
	"shambles/ramp"
)

// P7.2: the examples of Serve, and which of several plans is told.
func TestServe(t *testing.T) {
	shut := func(n int) api.Yard { return changed(func(y *api.Yard) { y.Ramps[1].Shut = n }) }
	alike := func(carts ...api.Cart) api.Yard {
		y := api.Yard{Ramps: []api.Ramp{{Shut: 99}, {Shut: 99}}, Carts: carts}
		for i := range carts {
			carts[i].Until = 99
			if carts[i].Ramps == nil {
				carts[i].Ramps = []int{0, 1}
			}
		}
		return y
	}
	// The ramp 0 opens late; the ramp 1 serves the second cart, which comes at 5 and takes until 30.
	behind := func(open int) api.Yard {
		return api.Yard{Ramps: []api.Ramp{{Open: open, Shut: 99}, {Shut: 99}}, Carts: []api.Cart{{Until: 99, Takes: span(1, 5), Ramps: []int{0, 1}}, {From: 5, Until: 99, Takes: span(1, 25), Ramps: []int{1}}}}
	}
	cart := func(takes int, ramps ...int) api.Cart { return api.Cart{Takes: span(1, takes), Ramps: ramps} }
	for i, c := range []struct {
		y    api.Yard
		plan []api.Slot
		last int
		e    api.Errno
	}{
		{yard(), on(0, 0, 1, 10, 0, 25), 55, api.OK},
		{shut(35), on(0, 0, 1, 10, 0, 25), 55, api.OK},
		{shut(34), nil, 0, api.ErrMissing},
		{changed(func(y *api.Yard) { y.Ramps[0].Shut = 55 }), on(0, 0, 1, 10, 0, 25), 55, api.OK},
		{changed(func(y *api.Yard) { y.Ramps[0].Shut = 54 }), nil, 0, api.ErrMissing},
		{changed(func(y *api.Yard) { y.Sweep = 10 }), on(0, 0, 1, 10, 0, 30), 60, api.OK},
		{changed(func(y *api.Yard) { y.Sweep = 11 }), nil, 0, api.ErrMissing},
		{changed(func(y *api.Yard) { y.Carts = nil }), nil, 0, api.OK},
		{changed(func(y *api.Yard) { y.Carts[1].Ramps = nil }), nil, 0, api.ErrMissing},
		{changed(func(y *api.Yard) { y.Carts[1].Grams = 501 }), nil, 0, api.ErrMissing},
		{changed(func(y *api.Yard) { y.Carts[1].Grams = 500 }), on(0, 0, 1, 10, 0, 25), 55, api.OK},
		{full(), nil, 0, api.ErrMissing},
		// The sweep is between carts only, neither before the first one nor behind the last one.
		{queue(480, 480, 480), on(0, 0), 480, api.OK},
		{queue(480, 1, 480, 480), nil, 0, api.ErrMissing},
		{queue(478, 1, 480, 480), on(0, 0, 0, 479), 480, api.OK},
		{queue(0, 480, 479), nil, 0, api.ErrMissing},
		// All that matters is when the last one is away; then the first carts come first.
		{queue(1, 5, 99, 99, 99), on(0, 0, 0, 6, 0, 12), 17, api.OK},
		{queue(1, 5, 99, 11, 5), on(0, 12, 0, 6, 0, 0), 17, api.OK},
		{queue(1, 5, 99, 99, 5), on(0, 6, 0, 12, 0, 0), 17, api.OK},
		// A ramp that has time lets its carts come in the order of their numbers, although it would be done sooner otherwise.
		{alike(api.Cart{From: 10, Takes: span(1, 5), Ramps: []int{0}}, cart(8, 0), cart(30, 1)), on(0, 10, 0, 0, 1, 0), 30, api.OK},
		{alike(api.Cart{From: 4, Takes: span(1, 5), Ramps: []int{0}}, cart(8, 0), cart(30, 1)), on(0, 4, 0, 9, 1, 0), 30, api.OK},
		{alike(api.Cart{From: 4, Takes: span(1, 5), Ramps: []int{0}}, cart(8, 0), cart(16, 1)), on(0, 8, 0, 0, 1, 0), 16, api.OK},
		// Of ramps that are alike the first one is taken by the first cart, by the next one only if there is time.
		{alike(cart(10), cart(30), cart(20)), on(0, 0, 1, 0, 0, 10), 30, api.OK},
		{alike(cart(10), cart(30, 0), cart(20)), on(1, 0, 0, 0, 1, 10), 30, api.OK},
		{alike(cart(10), cart(10), cart(30)), on(0, 0, 0, 10, 1, 0), 30, api.OK},
		{alike(cart(10), cart(10), cart(19)), on(0, 0, 0, 10, 1, 0), 20, api.OK},
		{alike(cart(30), cart(10), cart(10)), on(0, 0, 1, 0, 1, 10), 30, api.OK},
		// The ramp comes before the minute: the first cart waits on the ramp 0 rather than come to the ramp 1 at once.
		{behind(20), on(0, 20, 1, 5), 30, api.OK},
		{behind(25), on(0, 25, 1, 5), 30, api.OK},
		{behind(26), on(1, 0, 1, 5), 30, api.OK},
		{wide(9, 8, 7, 6, 5, 4, 3), on(0, 0, 1, 0, 2, 0, 1, 8, 0, 9, 2, 7, 2, 11), 14, api.OK},
		{wide(1, 1, 1, 1, 1, 1, 1), on(0, 0, 0, 1, 0, 2, 1, 0, 1, 1, 1, 2, 2, 0), 3, api.OK},
		{wide(160, 160, 160, 160, 160, 160, 160), on(0, 0, 0, 160, 0, 320, 1, 0, 1, 160, 1, 320, 2, 0), 480, api.OK},
		{wide(240, 240, 240, 240, 240, 240, 240), nil, 0, api.ErrMissing},
	} {
		if plan, last, e := ramp.Serve(c.y); e != c.e || last != c.last || !slices.Equal(plan, c.plan) {
			t.Error(i, plan, last, e)
		}
	}
}

// P7.2, P7.7, P7.8: the plan of Serve is the first one of those that have the last cart away soonest, of all plans of small yards.
func TestSoonest(t *testing.T) {
	kinds := map[string]int{}
	hold := func(y api.Yard, until int) {
		t.Helper()
		var want []api.Slot
		soonest, as := until+1, 0
		for plan := range servings(y, until) {
			switch last := latest(y, plan); {
			case last < soonest:
				want, soonest, as = plan, last, 1
			case last == soonest:
				as++
			}
		}
		plan, last, ok := served(t, y)
		if ok != (as > 0) || ok && last != soonest || !slices.Equal(plan, want) {
			t.Fatal(y, plan, last, ok, want, soonest)
		}
		switch {
		case as == 0:
			kinds["none"]++
		case as == 1:
			kinds["one"]++
		default:
			kinds["several"]++
		}
	}
	for y := range yards(4000, size{2, 3, 9, 3}) {
		hold(y, 9)
	}
	for y := range yards(1500, size{3, 4, 7, 3}) {
		hold(y, 7)
	}
	for y := range yards(1000, size{2, 5, 11, 3}) {
		hold(y, 11)
	}
	if kinds["none"] < 500 || kinds["one"] < 500 || kinds["several"] < 500 {
		t.Error("few yards of a kind:", kinds)
	}
}

// never is a minute behind all others.
const never = 1 << 20

// alone returns for each set of carts, a bit for each cart, the first minute in which a ramp can have served all of them: of several last ones the best.
func alone(y api.Yard, number int) []int {
	r := y.Ramps[number]
	done := make([]int, 1<<len(y.Carts))
	for set := 1; set < len(done); set++ {
		done[set] = never
		for cart, c := range y.Carts {
			before := set &^ (1 << cart)
			if before == set || !mayStand(y, cart, number) {
				continue
			}
			from := max(c.From, r.Open)
			if before > 0 {
				from = max(from, done[before]+y.Sweep)
			}
			if away := from + c.Takes.Hi; away <= min(c.Until, r.Shut) {
				done[set] = min(done[set], away)
			}
		}
	}
	return done
}

// soonest returns the first minute in which all carts can have been served, never if they cannot be: the last ramp serves some of them, the ramps before it the others.
func soonest(y api.Yard) int {
	all := alone(y, 0)
	for number := range y.Ramps[1:] {
		more := alone(y, number+1)
		next := make([]int, len(all))
		for set := range next {
			next[set] = never
			for some := set; ; some = (some - 1) & set {
				next[set] = min(next[set], max(all[set&^some], more[some]))
				if some == 0 {
					break
				}
			}
		}
		all = next
	}
	return all[len(all)-1]
}

// bound is the yard with a cart that has to take a slot.
func bound(y api.Yard, cart int, s api.Slot) api.Yard {
	y.Carts = slices.Clone(y.Carts)
	c := &y.Carts[cart]
	c.From, c.Until, c.Ramps = s.From, s.From+c.Takes.Hi, []int{s.Ramp}
	return y
}

// firstPlan returns the first plan that has all carts away by a minute, slot by slot: each one is the first one with which the other carts still can be served.
func firstPlan(y api.Yard, until int) []api.Slot {
	y.Ramps = slices.Clone(y.Ramps)
	for i := range y.Ramps {
		y.Ramps[i].Shut = min(y.Ramps[i].Shut, until)
	}
	var plan []api.Slot
carts:
	for cart, c := range y.Carts {
		for number := range y.Ramps {
			for from := c.From; mayStand(y, cart, number) && from+c.Takes.Hi <= min(c.Until, until); from++ {
				s := api.Slot{Ramp: number, From: from}
				if z := bound(y, cart, s); soonest(z) < never {
					y, plan = z, append(plan, s)
					continue carts
				}
			}
		}
	}
	return plan
}

// P7.2, P7.8: the plans of great yards, found in another way.
func TestGreatYards(t *testing.T) {
	can, ramps := 0, map[int]int{}
	hold := func(y api.Yard) {
		t.Helper()
		want := soonest(y)
		plan, last, ok := served(t, y)
		if ok != (want < never) || ok && (last != want || !slices.Equal(plan, firstPlan(y, want))) {
			t.Fatal(y, plan, last, ok, want)
		}
		if ok && len(y.Carts) > 3 {
			can++
			ramps[len(y.Ramps)]++
		}
	}
	for y := range yards(1200, size{3, 7, 40, 7}) {
		hold(y)
	}
	for y := range yards(150, size{3, 7, 480, 80}) {
		hold(y)
	}
	hold(wide(9, 8, 7, 6, 5, 4, 3))
	hold(wide(30, 30, 20, 20, 10, 10, 50))
	if can < 100 || ramps[1] < 10 || ramps[2] < 20 || ramps[3] < 20 {
		t.Error("few great yards whose carts can be served:", can, ramps)
	}
}

// P7.7: the plan of Serve surely holds, and its last cart is away when Serve says; in great yards too.
func TestServed(t *testing.T) {
	can := 0
	for y := range yards(1500, size{3, 7, 480, 100}) {
		plan, last, ok := served(t, y)
		if !ok {
			continue
		}
		verdict, e := ramp.Holds(y, plan)
		away, f := ramp.Away(y, plan)
		if e != api.OK || f != api.OK || verdict != api.Sure || len(plan) != len(y.Carts) {
			t.Fatal(y, plan, verdict, e, f)
		}
		end := 0
		for _, s := range away {
			end = max(end, s.Hi)
		}
		if end != last {
			t.Fatal(y, plan, last, away)
		}
		can++
	}
	if can < 300 {
		t.Error("few yards whose carts can be served:", can)
	}
}
