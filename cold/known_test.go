package cold_test

import (
	"math/rand/v2"
	"slices"
	"testing"

	"shambles/api"
	"shambles/cold"
	"shambles/scale"
)

// P4.1: the examples of Ice and Cold, and their edges.
func TestIce(t *testing.T) {
	box := func(change func(b *api.Box)) api.Cellar {
		return changed(func(c *api.Cellar) { change(&c.Boxes[0]) })
	}
	twice := changed(func(c *api.Cellar) {
		c.Boxes = append(c.Boxes, api.Box{Room: 50, Ice: span(0, 50), Melt: span(1, 1)})
		c.Fillings = []api.Filling{{Box: 0, Hour: 1, Grams: 400}, {Box: 1, Hour: 1, Grams: 30}, {Box: 0, Hour: 1, Grams: 400}}
	})
	exact := box(func(b *api.Box) { b.Ice, b.Melt = span(500, 500), span(250, 250) })
	still := box(func(b *api.Box) { b.Melt = span(0, 0) })
	late := changed(func(c *api.Cellar) { c.Fillings = append(c.Fillings, api.Filling{Hour: 239, Grams: 1}) })
	for i, c := range []struct {
		c         api.Cellar
		box, hour int
		want      api.Span
		verdict   int
	}{
		{cellar(), 0, 0, span(500, 600), api.Sure},
		{cellar(), 0, 1, span(250, 400), api.Sure},
		{cellar(), 0, 2, span(0, 200), api.Open},
		{cellar(), 0, 3, span(0, 0), api.Never},
		{cellar(), 0, 4, span(300, 300), api.Sure},
		{cellar(), 0, 5, span(50, 100), api.Sure},
		{cellar(), 0, 6, span(0, 0), api.Never},
		{cellar(), 0, 239, span(0, 0), api.Never},
		{twice, 0, 1, span(1000, 1000), api.Sure},
		{twice, 0, 2, span(750, 800), api.Sure},
		{twice, 1, 0, span(0, 50), api.Open},
		{twice, 1, 1, span(30, 50), api.Sure},
		{twice, 1, 31, span(0, 20), api.Open},
		{twice, 1, 50, span(0, 1), api.Open},
		{twice, 1, 51, span(0, 0), api.Never},
		{exact, 0, 1, span(250, 250), api.Sure},
		{exact, 0, 2, span(0, 0), api.Never},
		{still, 0, 239, span(800, 900), api.Sure},
		{late, 0, 239, span(1, 1), api.Sure},
		{box(func(b *api.Box) { b.Room, b.Ice = 0, span(0, 0) }), 0, 4, span(0, 0), api.Never},
		{box(func(b *api.Box) { b.Room, b.Ice = 200, span(200, 200) }), 0, 4, span(200, 200), api.Sure},
	} {
		ice, e := cold.Ice(c.c, c.box, c.hour)
		verdict, f := cold.Cold(c.c, c.box, c.hour)
		if ice != c.want || verdict != c.verdict || e != api.OK || f != api.OK {
			t.Error(i, ice, verdict, e, f)
		}
	}
}

// P4.2: the examples of Lost and Fresh, and their edges.
func TestLost(t *testing.T) {
	hall := api.Lot{Born: 5, Keeps: 40}
	moved := api.Lot{Born: 3, Keeps: 27, Stays: []api.Stay{{From: 4, To: 5}, {From: 6, To: 7}}}
	mixed := changed(func(c *api.Cellar) { c.Hall = span(99, 100) })
	frost := changed(func(c *api.Cellar) { c.Hall = span(-51, -50) })
	for i, c := range []struct {
		c       api.Cellar
		l       api.Lot
		hour    int
		want    api.Span
		verdict int
	}{
		{cellar(), lot(), 0, span(0, 0), api.Sure},
		{cellar(), lot(), 2, span(2, 2), api.Sure},
		{cellar(), lot(), 3, span(3, 7), api.Sure},
		{cellar(), lot(), 4, span(8, 12), api.Sure},
		{cellar(), lot(), 6, span(10, 14), api.Sure},
		{cellar(), lot(), 8, span(50, 54), api.Sure},
		{cellar(), lot(), 9, span(70, 74), api.Never},
		{cellar(), lot(), 240, span(4690, 4694), api.Never},
		{cellar(), keeping(52), 8, span(50, 54), api.Open},
		{cellar(), keeping(53), 8, span(50, 54), api.Open},
		{cellar(), keeping(54), 8, span(50, 54), api.Sure},
		{cellar(), keeping(50), 8, span(50, 54), api.Open},
		{cellar(), keeping(49), 8, span(50, 54), api.Never},
		{cellar(), keeping(0), 0, span(0, 0), api.Sure},
		{cellar(), keeping(0), 1, span(1, 1), api.Never},
		{cellar(), hall, 5, span(0, 0), api.Sure},
		{cellar(), hall, 7, span(40, 40), api.Sure},
		{cellar(), hall, 8, span(60, 60), api.Never},
		{cellar(), moved, 4, span(20, 20), api.Sure},
		{cellar(), moved, 5, span(21, 21), api.Sure},
		{cellar(), moved, 6, span(41, 41), api.Never},
		{cellar(), moved, 7, span(46, 46), api.Never},
		{mixed, hall, 7, span(10, 40), api.Sure},
		{mixed, hall, 240, span(1175, 4700), api.Never},
		{frost, hall, 7, span(0, 2), api.Sure},
		{frost, hall, 240, span(0, 235), api.Open},
	} {
		lost, e := cold.Lost(c.c, c.l, c.hour)
		verdict, f := cold.Fresh(c.c, c.l, c.hour)
		if lost != c.want || verdict != c.verdict || e != api.OK || f != api.OK {
			t.Error(i, lost, verdict, e, f)
		}
	}
}

// P4.2: the loss at each warmth is that of the last rate whose Above is not greater.
func TestLossAt(t *testing.T) {
	c := api.Cellar{Rates: []api.Rate{{Above: -300, Loss: 0}, {Above: -2, Loss: 3}, {Above: 0, Loss: 3}, {Above: 1, Loss: 7}, {Above: 400, Loss: 1000}}}
	later := api.Cellar{Rates: c.Rates[1:4]}
	for warmth := -300; warmth <= 400; warmth++ {
		for _, c := range []api.Cellar{c, later} {
			c.Hall = span(warmth, warmth)
			want := span(lossAt(c, warmth), lossAt(c, warmth))
			if lost, e := cold.Lost(c, api.Lot{Born: 7}, 8); lost != want || e != api.OK {
				t.Error(warmth, lost, e)
			}
		}
	}
}

// P4.2: the examples of Last, and its edges.
func TestLast(t *testing.T) {
	frost := changed(func(c *api.Cellar) { c.Hall = span(-300, -51) })
	for i, c := range []struct {
		c    api.Cellar
		l    api.Lot
		want int
	}{
		{cellar(), lot(), 8},
		{cellar(), keeping(52), 7},
		{cellar(), keeping(54), 8},
		{cellar(), keeping(53), 7},
		{cellar(), keeping(0), 0},
		{cellar(), keeping(6), 2},
		{cellar(), keeping(7), 3},
		{cellar(), keeping(4694), 240},
		{cellar(), keeping(4693), 239},
		{cellar(), keeping(100000), 240},
		{cellar(), api.Lot{Born: 5, Keeps: 40}, 7},
		{cellar(), api.Lot{Born: 239, Keeps: 19}, 239},
		{cellar(), api.Lot{Born: 239, Keeps: 20}, 240},
		{frost, api.Lot{Born: 5}, 240},
		{frost, keeping(14), 240},
		{frost, keeping(13), 5},
	} {
		if last, e := cold.Last(c.c, c.l); last != c.want || e != api.OK {
			t.Error(i, last, e)
		}
	}
}

// P4.3: the examples of Sell, and its edges.
func TestSell(t *testing.T) {
	lots := []api.Lot{lot(), {Born: 5, Keeps: 40}}
	for _, c := range []struct {
		s    api.Sold
		want api.Errno
	}{
		{api.Sold{Lot: 0, Hour: 8}, api.OK},
		{api.Sold{Lot: 0, Hour: 9}, api.ErrLate},
		{api.Sold{Lot: 0, Hour: 0}, api.OK},
		{api.Sold{Lot: 0, Hour: 240}, api.ErrLate},
		{api.Sold{Lot: 0, Hour: 241}, api.ErrRange},
		{api.Sold{Lot: 0, Hour: -1}, api.ErrRange},
		{api.Sold{Lot: 1, Hour: -1}, api.ErrRange},
		{api.Sold{Lot: 1, Hour: 4}, api.ErrLate},
		{api.Sold{Lot: 1, Hour: 5}, api.OK},
		{api.Sold{Lot: 1, Hour: 7}, api.OK},
		{api.Sold{Lot: 1, Hour: 8}, api.ErrLate},
		{api.Sold{Lot: 2, Hour: 0}, api.ErrMissing},
		{api.Sold{Lot: -1, Hour: 0}, api.ErrMissing},
		{api.Sold{Lot: 2, Hour: 241}, api.ErrMissing},
	} {
		all := []api.Sold{{Hour: 9}, c.s, {Hour: 8}, c.s}
		if got, e := cold.Sell(cellar(), lots, all); e != api.OK || !slices.Equal(got, []api.Errno{api.ErrLate, c.want, api.OK, c.want}) {
			t.Error(c.s, got, e)
		}
	}
	open := []api.Lot{keeping(52)}
	if got, e := cold.Sell(cellar(), open, []api.Sold{{Hour: 8}}); e != api.OK || !slices.Equal(got, []api.Errno{api.ErrLate}) {
		t.Error(got, e)
	}
	if got, e := cold.Sell(cellar(), nil, []api.Sold{{}}); e != api.OK || !slices.Equal(got, []api.Errno{api.ErrMissing}) {
		t.Error(got, e)
	}
	if got, e := cold.Sell(cellar(), nil, nil); e != api.OK || len(got) != 0 {
		t.Error(got, e)
	}
}

// P4.6: whatever the ice, what melts and the warmth truly are, ice and losses lie within Ice and Lost, and verdicts are so. P4.7: both ends of each are reached.
func TestTruths(t *testing.T) {
	cooled, kept := map[int]int{}, map[int]int{}
	for c, l := range smallCellars(700, 8) {
		for hour, all := range hourly(c, l, 12) {
			for box := range c.Boxes {
				ice, e := cold.Ice(c, box, hour)
				verdict, f := cold.Cold(c, box, hour)
				want := all.verdict(func(t truth) bool { return t.ice[box] > 0 })
				if ice != all.reached(func(t truth) int { return t.ice[box] }) || verdict != want || e != api.OK || f != api.OK {
					t.Fatal(c, box, hour, ice, verdict, e, f)
				}
				cooled[verdict]++
			}
			if hour < l.Born {
				continue
			}
			lost, e := cold.Lost(c, l, hour)
			verdict, f := cold.Fresh(c, l, hour)
			want := all.verdict(func(t truth) bool { return t.lost <= l.Keeps })
			if lost != all.reached(func(t truth) int { return t.lost }) || verdict != want || e != api.OK || f != api.OK {
				t.Fatal(c, l, hour, lost, verdict, e, f)
			}
			kept[verdict]++
		}
	}
	for _, verdict := range []int{api.Sure, api.Never, api.Open} {
		if cooled[verdict] < 1000 || kept[verdict] < 200 {
			t.Error("few verdicts of a kind:", cooled, kept)
		}
	}
}

// P4.8: no lot that may be sold has lost more than it keeps, in any truth; until Last it can be sold, and not an hour later.
func TestInTime(t *testing.T) {
	before, after := 0, 0
	for c, l := range smallCellars(500, 8) {
		last, e := cold.Last(c, l)
		if e != api.OK || last < l.Born {
			t.Fatal(c, l, last, e)
		}
		for hour, all := range hourly(c, l, 12) {
			errors, e := cold.Sell(c, []api.Lot{l}, []api.Sold{{Hour: hour}})
			worst := all.reached(func(t truth) int { return t.lost }).Hi
			want := api.ErrLate
			if l.Born <= hour && worst <= l.Keeps {
				want = api.OK
			}
			if e != api.OK || errors[0] != want || (want == api.OK) != (l.Born <= hour && hour <= last) {
				t.Fatal(c, l, hour, last, worst, errors, e)
			}
			if want == api.OK {
				before++
			} else if hour > last {
				after++
			}
		}
	}
	if before < 1000 || after < 500 {
		t.Error("few hours of a kind:", before, after)
	}
}

// P4.8: until Last a lot can be sold, and not an hour later, in all hours.
func TestLastOfAll(t *testing.T) {
	ends := map[bool]int{}
	for c, l := range cellars(150, 100) {
		last, e := cold.Last(c, l)
		if e != api.OK {
			t.Fatal(c, l, e)
		}
		for hour := range api.MaxHours + 1 {
			errors, e := cold.Sell(c, []api.Lot{l}, []api.Sold{{Hour: hour}})
			if e != api.OK || (errors[0] == api.OK) != (l.Born <= hour && hour <= last) {
				t.Fatal(c, l, hour, last, errors, e)
			}
		}
		ends[last == api.MaxHours]++
	}
	if ends[true] < 10 || ends[false] < 100 {
		t.Error("few lots of a kind:", ends)
	}
}

// P4.9: from hour to hour no loss gets less; a lot that is not surely fresh does not become so.
func TestOn(t *testing.T) {
	for c, l := range cellars(150, 100) {
		before, fresh := span(0, 0), api.Sure
		for hour := l.Born; hour <= api.MaxHours; hour++ {
			lost, e := cold.Lost(c, l, hour)
			verdict, f := cold.Fresh(c, l, hour)
			if e != api.OK || f != api.OK || lost.Lo < before.Lo || lost.Hi < before.Hi || fresh != api.Sure && verdict == api.Sure {
				t.Fatal(c, l, hour, before, lost, fresh, verdict, e, f)
			}
			before, fresh = lost, verdict
		}
	}
}

// T6: if the ice of a box is weighed, then, however much the scale truly is off, the box has ice, and lots lose, as is said for the weight that may be; and no lot is sold beyond its hours.
func TestIced(t *testing.T) {
	r := rand.New(rand.NewPCG(4, 6))
	b := api.Bench{Masses: []api.Mass{{Nominal: 10}}, Scales: []api.Scale{{First: span(-1, 1), Drift: span(-1, 0)}}, Days: 2}
	sold := 0
	for c, l := range smallCellars(700, 8) {
		if len(c.Boxes) == 0 {
			continue
		}
		day := r.IntN(b.Days + 1)
		errors, e := scale.Errors(b, 0)
		if e != api.OK {
			t.Fatal(e)
		}
		grams := r.IntN(c.Boxes[0].Room + 1)
		shown := grams + errors[day].Lo + r.IntN(errors[day].Hi-errors[day].Lo+1)
		if shown < 0 {
			continue
		}
		weight, e := scale.Weight(b, 0, day, shown)
		if e != api.OK {
			t.Fatal(e)
		}
		c.Boxes[0].Ice = span(max(0, weight.Lo), min(weight.Hi, c.Boxes[0].Room))
		weighed := copied(c)
		weighed.Boxes[0].Ice = span(grams, grams)
		sold += holdIced(t, c, weighed, l)
	}
	if sold < 500 {
		t.Error("few sales:", sold)
	}
}

// holdIced holds all truths of a cellar whose ice is known against what is said of one whose ice was weighed, and returns how many sales there are.
func holdIced(t *testing.T, c, known api.Cellar, l api.Lot) int {
	t.Helper()
	sold := 0
	for hour, all := range hourly(known, l, 12) {
		ice, e := cold.Ice(c, 0, hour)
		if reached := all.reached(func(t truth) int { return t.ice[0] }); e != api.OK || !within(reached, ice) {
			t.Fatal(c, known, hour, ice, reached, e)
		}
		if hour < l.Born {
			continue
		}
		lost, e := cold.Lost(c, l, hour)
		reached := all.reached(func(t truth) int { return t.lost })
		errors, f := cold.Sell(c, []api.Lot{l}, []api.Sold{{Hour: hour}})
		if e != api.OK || f != api.OK || !within(reached, lost) || errors[0] == api.OK && reached.Hi > l.Keeps {
			t.Fatal(c, known, l, hour, lost, reached, errors, e, f)
		}
		if errors[0] == api.OK {
			sold++
		}
	}
	return sold
}

// within says whether a span is within another one.
func within(s, other api.Span) bool { return other.Lo <= s.Lo && s.Hi <= other.Hi }
