package ramp_test

import (
	"math"
	"math/rand/v2"
	"slices"
	"testing"

	"shambles/api"
	"shambles/ramp"
)

type checkCase struct {
	name   string
	change func(y *api.Yard)
	want   api.Errno
}

// window is the change of the minutes of the second ramp.
func window(open, shut int) func(y *api.Yard) {
	return func(y *api.Yard) { y.Ramps[1].Open, y.Ramps[1].Shut = open, shut }
}

// times is the change of the minutes of the second cart.
func times(from, until int) func(y *api.Yard) {
	return func(y *api.Yard) { y.Carts[1].From, y.Carts[1].Until = from, until }
}

// takes is the change of how long the second cart takes.
func takes(low, high int) func(y *api.Yard) {
	return func(y *api.Yard) { y.Carts[1].Takes = span(low, high) }
}

// stands is the change of the ramps of the second cart.
func stands(ramps ...int) func(y *api.Yard) {
	return func(y *api.Yard) { y.Carts[1].Ramps = ramps }
}

// P7.1: each error of a yard, from both sides of each bound.
func TestCheck(t *testing.T) {
	run(t, []checkCase{
		{"Y", func(y *api.Yard) {}, api.OK},
		{"full", func(y *api.Yard) { *y = full() }, api.OK},
		{"nothing", func(y *api.Yard) { *y = api.Yard{} }, api.ErrShort},
		{"no ramps", func(y *api.Yard) { y.Ramps = nil }, api.ErrShort},
		{"no carts", func(y *api.Yard) { y.Carts = nil }, api.OK},
		{"one ramp, no carts", func(y *api.Yard) { *y = api.Yard{Ramps: make([]api.Ramp, 1)} }, api.OK},
		{"3 ramps", func(y *api.Yard) { y.Ramps = append(y.Ramps, api.Ramp{}) }, api.OK},
		{"4 ramps", func(y *api.Yard) { y.Ramps = make([]api.Ramp, 4) }, api.ErrFull},
		{"open at 0", window(0, 0), api.OK},
		{"open below 0", window(-1, 40), api.ErrRange},
		{"open and shut at dawn", window(480, 480), api.OK},
		{"shut behind dawn", window(10, 481), api.ErrRange},
		{"open behind dawn", window(481, 481), api.ErrRange},
		{"shut below 0", window(10, -1), api.ErrRange},
		{"open and shut at once", window(40, 40), api.OK},
		{"open behind shut", window(41, 40), api.ErrOrder},
		{"bears below 0", func(y *api.Yard) { y.Ramps[1].Bears = -1 }, api.ErrRange},
		{"bears 0", func(y *api.Yard) { y.Ramps[1].Bears = 0 }, api.OK},
		{"bears most", func(y *api.Yard) { y.Ramps[1].Bears = 1000000 }, api.OK},
		{"bears too much", func(y *api.Yard) { y.Ramps[1].Bears = 1000001 }, api.ErrRange},
		{"7 carts", func(y *api.Yard) { y.Carts = slices.Repeat(y.Carts[:1], 7) }, api.OK},
		{"8 carts", func(y *api.Yard) { y.Carts = slices.Repeat(y.Carts[:1], 8) }, api.ErrFull},
		{"from 0 until 0", times(0, 0), api.OK},
		{"from below 0", times(-1, 60), api.ErrRange},
		{"until below 0", times(0, -1), api.ErrRange},
		{"from dawn until dawn", times(480, 480), api.OK},
		{"until behind dawn", times(0, 481), api.ErrRange},
		{"from behind dawn", times(481, 480), api.ErrRange},
		{"from behind until", times(60, 59), api.ErrOrder},
		{"takes 1", takes(1, 1), api.OK},
		{"takes 0", takes(0, 25), api.ErrRange},
		{"takes 0 at most", takes(1, 0), api.ErrRange},
		{"takes all the time", takes(480, 480), api.OK},
		{"takes more", takes(20, 481), api.ErrRange},
		{"takes more at least", takes(481, 480), api.ErrRange},
		{"takes turned", takes(21, 20), api.ErrOrder},
		{"grams below 0", func(y *api.Yard) { y.Carts[1].Grams = -1 }, api.ErrRange},
		{"grams 0", func(y *api.Yard) { y.Carts[1].Grams = 0 }, api.OK},
		{"grams most", func(y *api.Yard) { y.Carts[1].Grams = 1000000 }, api.OK},
		{"grams too much", func(y *api.Yard) { y.Carts[1].Grams = 1000001 }, api.ErrRange},
		{"on no ramp", stands(), api.OK},
		{"on the last ramp", stands(1), api.OK},
		{"on a ramp that there is not", stands(2), api.ErrMissing},
		{"on a ramp below 0", stands(-1), api.ErrMissing},
		{"on a ramp far off", stands(0, math.MaxInt), api.ErrMissing},
		{"on a ramp twice", stands(1, 1), api.ErrOrder},
		{"on ramps turned", stands(1, 0), api.ErrOrder},
		{"sweep 0", func(y *api.Yard) { y.Sweep = 0 }, api.OK},
		{"sweep below 0", func(y *api.Yard) { y.Sweep = -1 }, api.ErrRange},
		{"sweep most", func(y *api.Yard) { y.Sweep = 480 }, api.OK},
		{"sweep too much", func(y *api.Yard) { y.Sweep = 481 }, api.ErrRange},
		{"a third ramp to stand on", func(y *api.Yard) {
			y.Ramps = append(y.Ramps, api.Ramp{})
			y.Carts[1].Ramps = []int{0, 1, 2}
		}, api.OK},
	})
}

// P7.1, R1: of two errors the one is told that the chapter names first.
func TestCheckOrder(t *testing.T) {
	run(t, []checkCase{
		{"no ramps, then all else", func(y *api.Yard) { y.Ramps, y.Carts, y.Sweep = nil, make([]api.Cart, 8), -1 }, api.ErrShort},
		{"number of ramps first", func(y *api.Yard) { y.Ramps = slices.Repeat([]api.Ramp{{Open: -1}}, 4) }, api.ErrFull},
		{"shut, then the order", window(41, -1), api.ErrRange},
		{"the order, then bears", func(y *api.Yard) { y.Ramps[1] = api.Ramp{Open: 2, Shut: 1, Bears: -1} }, api.ErrOrder},
		{"ramp by ramp", func(y *api.Yard) { y.Ramps[0].Bears, y.Ramps[1].Open = -1, 41 }, api.ErrRange},
		{"ramp by ramp, turned", func(y *api.Yard) { y.Ramps[0].Open, y.Ramps[1].Open = 61, -1 }, api.ErrOrder},
		{"ramps, then the number of carts", func(y *api.Yard) { y.Ramps[1].Bears, y.Carts = -1, make([]api.Cart, 8) }, api.ErrRange},
		{"number of carts first", func(y *api.Yard) { y.Carts = make([]api.Cart, 8) }, api.ErrFull},
		{"number of carts, then the sweep", func(y *api.Yard) { y.Carts, y.Sweep = make([]api.Cart, 8), -1 }, api.ErrFull},
		{"until, then the order", times(481, 3), api.ErrRange},
		{"the order of minutes, then takes", func(y *api.Yard) { y.Carts[1].From, y.Carts[1].Takes = 61, span(0, 1) }, api.ErrOrder},
		{"takes, then their order", takes(5, 0), api.ErrRange},
		{"the order of takes, then grams", func(y *api.Yard) { y.Carts[1].Takes, y.Carts[1].Grams = span(2, 1), -1 }, api.ErrOrder},
		{"grams, then ramps", func(y *api.Yard) { y.Carts[1].Grams, y.Carts[1].Ramps = -1, []int{9} }, api.ErrRange},
		{"ramps one by one", stands(1, 0, 9), api.ErrOrder},
		{"ramps one by one, missing first", stands(1, 9, 0), api.ErrMissing},
		{"missing, then the order", stands(1, -1), api.ErrMissing},
		{"cart by cart", func(y *api.Yard) { y.Carts[1].Ramps, y.Carts[2].From = []int{9}, -1 }, api.ErrMissing},
		{"carts, then the sweep", func(y *api.Yard) { y.Carts[2].Ramps, y.Sweep = []int{1, 0}, -1 }, api.ErrOrder},
	})
}

// run holds Check, and all that return its error, against what is wanted; plans are wrong too, but this comes later.
func run(t *testing.T, cases []checkCase) {
	t.Helper()
	for _, k := range cases {
		y := changed(k.change)
		if e := ramp.Check(y); e != k.want {
			t.Errorf("%s: %v, want %v", k.name, e, k.want)
		}
		later := k.want
		if later == api.OK {
			later = api.ErrForm
		}
		bad := make([]api.Slot, 10)
		verdict, a := ramp.Holds(y, bad)
		away, b := ramp.Away(y, bad)
		if e := ramp.CheckPlan(y, bad); e != later || a != later || b != later || verdict != 0 || away != nil {
			t.Errorf("%s: %v %v %v, want %v", k.name, e, a, b, later)
		}
		text, c := ramp.Write(y)
		list, d := ramp.Most(y)
		if c != k.want || d != k.want || k.want != api.OK && (text != "" || list != nil) {
			t.Errorf("%s: %q %v %v %v", k.name, text, c, list, d)
		}
		plan, last, f := ramp.Serve(y)
		set, g := ramp.Stuck(y)
		if k.want != api.OK && (f != k.want || g != k.want || plan != nil || last != 0 || set != nil) {
			t.Errorf("%s: %v %d %v %v %v", k.name, plan, last, f, set, g)
		}
	}
}

// P7.1, R1: the errors of plans, in their order.
func TestPlanErrors(t *testing.T) {
	far, low := math.MaxInt, math.MinInt
	for i, k := range []struct {
		plan []api.Slot
		want api.Errno
	}{
		{on(0, 0, 1, 10, 0, 25), api.OK},
		{on(0, 480, 1, 480, 0, 480), api.OK},
		{on(0, 0, 0, 0, 0, 0), api.OK},
		{nil, api.ErrForm},
		{on(0, 0, 1, 10), api.ErrForm},
		{on(0, 0, 1, 10, 0, 25, 0, 50), api.ErrForm},
		{on(9, 9), api.ErrForm},
		{on(2, 0, 1, 10, 0, 25), api.ErrMissing},
		{on(-1, 0, 1, 10, 0, 25), api.ErrMissing},
		{on(0, 0, 1, 10, far, 25), api.ErrMissing},
		{on(0, 0, 1, 10, low, 25), api.ErrMissing},
		{on(0, 0, 1, 10, 1, 25), api.ErrKind},
		{on(1, 0, 1, 10, 0, 25), api.ErrOver},
		{on(0, -1, 1, 10, 0, 25), api.ErrRange},
		{on(0, 481, 1, 10, 0, 25), api.ErrRange},
		{on(0, 0, 1, 10, 0, far), api.ErrRange},
		{on(0, 0, 1, 10, 0, low), api.ErrRange},
		// The first error of a slot, then the next slot.
		{on(2, -1, 1, 10, 0, 25), api.ErrMissing},
		{on(1, -1, 1, 10, 0, 25), api.ErrOver},
		{on(0, 0, 1, 10, 1, -1), api.ErrKind},
		{on(0, -1, 2, 10, 0, 25), api.ErrRange},
		{on(1, 0, 2, 10, 0, 25), api.ErrOver},
		{on(0, 0, 1, 481, 1, 25), api.ErrRange},
	} {
		verdict, a := ramp.Holds(yard(), k.plan)
		away, b := ramp.Away(yard(), k.plan)
		if e := ramp.CheckPlan(yard(), k.plan); e != k.want || a != k.want || b != k.want {
			t.Error(i, e, a, b, k.want)
		}
		if k.want != api.OK && (verdict != 0 || away != nil) {
			t.Error(i, verdict, away)
		}
	}
}

// P7.1: a cart that is not among those of a ramp is told as that, even if it is too heavy; one just as heavy as the ramp bears may stand there.
func TestStand(t *testing.T) {
	heavy := func(grams int, ramps ...int) api.Yard {
		return changed(func(y *api.Yard) { y.Carts[1].Grams, y.Carts[1].Ramps = grams, ramps })
	}
	for i, k := range []struct {
		y    api.Yard
		want api.Errno
	}{
		{heavy(500, 0, 1), api.OK}, {heavy(501, 0, 1), api.ErrOver}, {heavy(501, 0), api.ErrKind}, {heavy(0), api.ErrKind}, {heavy(500, 1), api.OK},
	} {
		if e := ramp.CheckPlan(k.y, on(0, 0, 1, 10, 0, 25)); e != k.want {
			t.Error(i, e)
		}
	}
}

// P1: no argument makes a function panic.
func TestAnyArguments(t *testing.T) {
	r := rand.New(rand.NewPCG(1, 7))
	odd := []int{math.MinInt, -1, 0, 1, 2, 3, 7, 8, 60, 479, 480, 481, 1000000, 1000001, math.MaxInt}
	pick := func() int { return odd[r.IntN(len(odd))] }
	for range 5000 {
		y := pickYard(r, size{4, 8, 480, 90})
		switch r.IntN(4) {
		case 0:
			y.Carts = append(y.Carts, api.Cart{From: pick(), Until: pick(), Takes: span(pick(), pick()), Grams: pick(), Ramps: []int{pick()}})
		case 1:
			y.Ramps = append(y.Ramps, api.Ramp{Open: pick(), Shut: pick(), Bears: pick()})
		case 2:
			y.Ramps, y.Sweep = y.Ramps[:r.IntN(len(y.Ramps)+1)], pick()
		}
		plan := make([]api.Slot, len(y.Carts))
		for i := range plan {
			plan[i] = api.Slot{Ramp: pick(), From: pick()}
		}
		ramp.Holds(y, plan)
		ramp.Away(y, plan)
		ramp.Serve(y)
		ramp.Stuck(y)
		ramp.Most(y)
		if _, e := ramp.Write(y); e != ramp.Check(y) {
			t.Fatal(y, e)
		}
	}
}

// R4: arguments stay as they are, and results share no memory.
func TestMemory(t *testing.T) {
	p := on(0, 0, 1, 10, 0, 25)
	tight := changed(func(y *api.Yard) { y.Ramps[1].Shut = 30 })
	y, z := yard(), copied(tight)
	text, _ := ramp.Write(y)
	for range 2 {
		away, _ := ramp.Away(y, p)
		verdict, _ := ramp.Holds(y, p)
		plan, last, _ := ramp.Serve(y)
		set, _ := ramp.Stuck(z)
		list, _ := ramp.Most(z)
		read, _, _ := ramp.Read(text)
		if away[2] != span(45, 55) || verdict != api.Sure || !slices.Equal(plan, on(0, 0, 1, 10, 0, 25)) || last != 55 || !slices.Equal(set, []int{0, 1, 2}) || !slices.Equal(list, []int{0, 1}) || !same(read, y) {
			t.Error(away, verdict, plan, last, set, list, read)
		}
		clear(away)
		clear(plan)
		clear(set)
		clear(list)
		for i := range read.Carts {
			clear(read.Carts[i].Ramps)
		}
		clear(read.Ramps)
		clear(read.Carts)
	}
	if !same(y, yard()) || !same(z, tight) || !slices.Equal(p, on(0, 0, 1, 10, 0, 25)) {
		t.Error(y, z, p)
	}
}
