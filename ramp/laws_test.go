package ramp_test

import (
	"math/rand/v2"
	"slices"
	"testing"

	"shambles/api"
	"shambles/cold"
	"shambles/ramp"
)

// easier is the yard with wider windows, shorter times, stronger ramps and less sweeping, or with some of it.
func easier(r *rand.Rand, y api.Yard) api.Yard {
	y = copied(y)
	less := func(n *int, least int) { *n -= r.IntN(2) * r.IntN(*n-least+1) }
	more := func(n *int, most int) { *n += r.IntN(2) * r.IntN(most-*n+1) }
	less(&y.Sweep, 0)
	for i := range y.Ramps {
		less(&y.Ramps[i].Open, 0)
		more(&y.Ramps[i].Shut, api.MaxDawn)
		more(&y.Ramps[i].Bears, 120)
	}
	for i := range y.Carts {
		c := &y.Carts[i]
		less(&c.From, 0)
		more(&c.Until, api.MaxDawn)
		less(&c.Takes.Lo, 1)
		less(&c.Takes.Hi, c.Takes.Lo)
	}
	return y
}

// P7.11: in an easier yard carts that can be served still can, and the last one is away no later; a plan that surely holds still does.
func TestEasier(t *testing.T) {
	r := rand.New(rand.NewPCG(7, 11))
	kept, sooner, won := 0, 0, 0
	for y := range yards(1500, size{3, 7, 480, 120}) {
		z := easier(r, y)
		plan, before, ok := served(t, y)
		_, after, still := served(t, z)
		if ok && (!still || after > before) {
			t.Fatal(y, z, before, after, still)
		}
		if ok {
			kept++
			if verdict, e := ramp.Holds(z, plan); e != api.OK || verdict != api.Sure {
				t.Fatal(y, z, plan, verdict, e)
			}
		}
		if ok && after < before {
			sooner++
		}
		if still && !ok {
			won++
		}
		list := most(t, y)
		if _, _, ok := served(t, only(z, list)); !ok || len(most(t, z)) < len(list) {
			t.Fatal(y, z, list)
		}
		if set := stuck(t, z); set != nil {
			if _, _, ok := served(t, only(y, set)); ok {
				t.Fatal(y, z, set)
			}
		}
	}
	if kept < 200 || sooner < 100 || won < 100 {
		t.Error("few yards that become easier:", kept, sooner, won)
	}
}

// later is the yard with all times some minutes later.
func later(y api.Yard, minutes int) api.Yard {
	y = copied(y)
	for i := range y.Ramps {
		y.Ramps[i].Open += minutes
		y.Ramps[i].Shut += minutes
	}
	for i := range y.Carts {
		y.Carts[i].From += minutes
		y.Carts[i].Until += minutes
	}
	return y
}

// P7.12: if all times of a yard are some minutes later, so is its plan, and nothing else changes.
func TestLater(t *testing.T) {
	r := rand.New(rand.NewPCG(7, 12))
	can := 0
	for y := range yards(1000, size{3, 7, 300, 80}) {
		minutes := 1 + r.IntN(180)
		z := later(y, minutes)
		if !slices.Equal(stuck(t, y), stuck(t, z)) || !slices.Equal(most(t, y), most(t, z)) {
			t.Fatal(y, minutes)
		}
		plan, last, ok := served(t, y)
		then, end, still := served(t, z)
		if ok != still {
			t.Fatal(y, minutes, plan, then)
		}
		if !ok || len(plan) == 0 {
			continue
		}
		can++
		for i := range plan {
			plan[i].From += minutes
		}
		if !slices.Equal(plan, then) || end != last+minutes {
			t.Fatal(y, minutes, plan, last, then, end)
		}
		// A slot that is moved holds as much as it did.
		i := r.IntN(len(plan))
		plan[i].From = minutes + r.IntN(api.MaxDawn-minutes+1)
		moved := slices.Clone(plan)
		for i := range moved {
			moved[i].From -= minutes
		}
		a, e := ramp.Holds(y, moved)
		b, f := ramp.Holds(z, plan)
		was, g := ramp.Away(y, moved)
		is, h := ramp.Away(z, plan)
		if e != api.OK || f != api.OK || g != api.OK || h != api.OK || a != b {
			t.Fatal(y, minutes, plan, a, b, e, f, g, h)
		}
		for i := range was {
			if is[i] != span(was[i].Lo+minutes, was[i].Hi+minutes) {
				t.Fatal(y, minutes, plan, was, is)
			}
		}
	}
	if can < 200 {
		t.Error("few yards whose carts can be served:", can)
	}
}

// cellar is a cellar with one box, whose ice has melted after some hours.
func cellar() api.Cellar {
	return api.Cellar{
		Hall:  span(100, 180),
		Boxes: []api.Box{{Room: 5000, Ice: span(2000, 3000), Melt: span(150, 250), Cold: span(-20, 20), Warm: span(60, 90)}},
		Rates: []api.Rate{{Above: -100, Loss: 1}, {Above: 50, Loss: 6}, {Above: 150, Loss: 15}},
	}
}

// T2: a lot that a cart of the best plan brings is there in the first hour that begins when the cart is surely away, however long unloading truly takes, and can be sold from then on until its last hour.
func TestUnloaded(t *testing.T) {
	const minutes = 60
	r := rand.New(rand.NewPCG(2, 7))
	lots, whole := 0, 0
	for y := range yards(300, size{3, 7, 480, 90}) {
		plan, _, ok := served(t, y)
		if !ok {
			continue
		}
		away, e := ramp.Away(y, plan)
		if e != api.OK {
			t.Fatal(y, plan, e)
		}
		for cart, s := range plan {
			born := (away[cart].Hi + minutes - 1) / minutes
			for n := y.Carts[cart].Takes.Lo; n <= y.Carts[cart].Takes.Hi; n++ {
				if s.From+n > born*minutes {
					t.Fatal(y, plan, cart, n, born)
				}
			}
			// In the hour before, it may still be unloaded.
			if before := (born - 1) * minutes; away[cart].Hi <= before {
				t.Fatal(y, plan, cart, born)
			}
			if away[cart].Hi == born*minutes {
				whole++
			}
			lot := api.Lot{Born: born, Keeps: r.IntN(200), Stays: []api.Stay{{Box: 0, From: born + r.IntN(2), To: born + 2 + r.IntN(20)}}}
			sold(t, cellar(), lot)
			lots++
		}
	}
	if lots < 100 || whole < 3 {
		t.Error("few lots:", lots, whole)
	}
}

// sold holds that a lot can be sold from when it is born until its last hour, neither sooner nor later.
func sold(t *testing.T, c api.Cellar, lot api.Lot) {
	t.Helper()
	last, e := cold.Last(c, lot)
	if e != api.OK || last < lot.Born {
		t.Fatal(lot, last, e)
	}
	var sales []api.Sold
	for hour := lot.Born - 1; hour <= min(last+1, lot.Born+30); hour++ {
		sales = append(sales, api.Sold{Hour: hour})
	}
	errors, e := cold.Sell(c, []api.Lot{lot}, sales)
	if e != api.OK {
		t.Fatal(lot, e)
	}
	for i, s := range sales {
		want := api.OK
		if s.Hour < lot.Born || s.Hour > last {
			want = api.ErrLate
		}
		if errors[i] != want {
			t.Fatal(lot, last, s, errors[i])
		}
	}
}
