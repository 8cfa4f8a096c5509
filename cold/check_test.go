package cold_test

import (
	"math"
	"math/rand/v2"
	"slices"
	"testing"

	"shambles/api"
	"shambles/cold"
)

type checkCase struct {
	name   string
	change func(c *api.Cellar)
	want   api.Errno
}

// ofBox is a change of the box 0.
func ofBox(change func(b *api.Box)) func(c *api.Cellar) {
	return func(c *api.Cellar) { change(&c.Boxes[0]) }
}

// fill is the change to these fillings.
func fill(fillings ...api.Filling) func(c *api.Cellar) {
	return func(c *api.Cellar) { c.Fillings = fillings }
}

// rate is the change to these rates.
func rate(rates ...api.Rate) func(c *api.Cellar) {
	return func(c *api.Cellar) { c.Rates = rates }
}

// P4.1: each error of the hall and the boxes.
func TestCheckBoxes(t *testing.T) {
	run(t, []checkCase{
		{"C", func(c *api.Cellar) {}, api.OK},
		{"full", func(c *api.Cellar) { *c, _ = full() }, api.OK},
		{"no boxes, no fillings", func(c *api.Cellar) { c.Boxes, c.Fillings = nil, nil }, api.OK},
		{"hall too cold", func(c *api.Cellar) { c.Hall = span(-301, 5) }, api.ErrRange},
		{"hall too warm", func(c *api.Cellar) { c.Hall = span(5, 401) }, api.ErrRange},
		{"hall widest", func(c *api.Cellar) { c.Hall = span(-300, 400) }, api.OK},
		{"hall of one warmth", func(c *api.Cellar) { c.Hall = span(-7, -7) }, api.OK},
		{"hall turned", func(c *api.Cellar) { c.Hall = span(6, 5) }, api.ErrOrder},
		{"hall turned and too warm", func(c *api.Cellar) { c.Hall = span(401, 5) }, api.ErrRange},
		{"six boxes", func(c *api.Cellar) { c.Boxes = make([]api.Box, 6) }, api.OK},
		{"seven boxes", func(c *api.Cellar) { c.Boxes = make([]api.Box, 7) }, api.ErrFull},
		{"room below 0", ofBox(func(b *api.Box) { b.Room = -1 }), api.ErrRange},
		{"no room", ofBox(func(b *api.Box) { b.Room, b.Ice = 0, span(0, 0) }), api.OK},
		{"room most", ofBox(func(b *api.Box) { b.Room = 100000 }), api.OK},
		{"room too much", ofBox(func(b *api.Box) { b.Room = 100001 }), api.ErrRange},
		{"ice below 0", ofBox(func(b *api.Box) { b.Ice = span(-1, 600) }), api.ErrRange},
		{"ice up to the room", ofBox(func(b *api.Box) { b.Ice = span(0, 1000) }), api.OK},
		{"ice beyond the room", ofBox(func(b *api.Box) { b.Ice = span(0, 1001) }), api.ErrRange},
		{"ice turned", ofBox(func(b *api.Box) { b.Ice = span(501, 500) }), api.ErrOrder},
		{"melt below 0", ofBox(func(b *api.Box) { b.Melt = span(-1, 0) }), api.ErrRange},
		{"melt beyond the room", ofBox(func(b *api.Box) { b.Melt = span(0, 100000) }), api.OK},
		{"melt too much", ofBox(func(b *api.Box) { b.Melt = span(0, 100001) }), api.ErrRange},
		{"melt turned", ofBox(func(b *api.Box) { b.Melt = span(1, 0) }), api.ErrOrder},
		{"cold too cold", ofBox(func(b *api.Box) { b.Cold = span(-301, 10) }), api.ErrRange},
		{"cold coldest", ofBox(func(b *api.Box) { b.Cold = span(-300, 10) }), api.OK},
		{"cold too warm", ofBox(func(b *api.Box) { b.Cold = span(10, 401) }), api.ErrRange},
		{"cold turned", ofBox(func(b *api.Box) { b.Cold = span(11, 10) }), api.ErrOrder},
		{"warm too cold", ofBox(func(b *api.Box) { b.Warm = span(-301, 80) }), api.ErrRange},
		{"warm too warm", ofBox(func(b *api.Box) { b.Warm = span(50, 401) }), api.ErrRange},
		{"warm warmest", ofBox(func(b *api.Box) { b.Warm = span(50, 400) }), api.OK},
		{"warm turned", ofBox(func(b *api.Box) { b.Warm = span(80, 79) }), api.ErrOrder},
		{"cold as warm", ofBox(func(b *api.Box) { b.Cold = span(-10, 50) }), api.OK},
		{"cold warmer than warm", ofBox(func(b *api.Box) { b.Cold = span(-10, 51) }), api.ErrClash},
		{"cold above warm", ofBox(func(b *api.Box) { b.Cold = span(51, 52) }), api.ErrClash},
	})
}

// P4.1: each error of the fillings and the rates.
func TestCheckRest(t *testing.T) {
	run(t, []checkCase{
		{"no fillings", fill(), api.OK},
		{"20 fillings", func(c *api.Cellar) { c.Fillings = make([]api.Filling, 20) }, api.OK},
		{"21 fillings", func(c *api.Cellar) { c.Fillings = make([]api.Filling, 21) }, api.ErrFull},
		{"filling of no box", fill(api.Filling{Box: 1}), api.ErrMissing},
		{"filling of a box below 0", fill(api.Filling{Box: -1}), api.ErrMissing},
		{"filling too early", fill(api.Filling{Hour: -1}), api.ErrRange},
		{"filling in the last hour", fill(api.Filling{Hour: 239}), api.OK},
		{"filling too late", fill(api.Filling{Hour: 240}), api.ErrRange},
		{"grams below 0", fill(api.Filling{Grams: -1}), api.ErrRange},
		{"grams most", fill(api.Filling{Grams: 100000}), api.OK},
		{"grams too much", fill(api.Filling{Grams: 100001}), api.ErrRange},
		{"fillings in one hour", fill(api.Filling{Hour: 4}, api.Filling{Hour: 4}), api.OK},
		{"fillings turned", fill(api.Filling{Hour: 4}, api.Filling{Hour: 3}), api.ErrOrder},
		{"no rates", rate(), api.ErrShort},
		{"one rate", rate(api.Rate{Above: -300}), api.OK},
		{"seven rates", func(c *api.Cellar) { c.Rates = make([]api.Rate, 7) }, api.ErrFull},
		{"above too cold", rate(api.Rate{Above: -301}), api.ErrRange},
		{"above warmest", rate(api.Rate{Above: 400}), api.OK},
		{"above too warm", rate(api.Rate{Above: 401}), api.ErrRange},
		{"loss below 0", rate(api.Rate{Loss: -1}), api.ErrRange},
		{"loss most", rate(api.Rate{Loss: 1000}), api.OK},
		{"loss too much", rate(api.Rate{Loss: 1001}), api.ErrRange},
		{"above twice", rate(api.Rate{Above: 5, Loss: 1}, api.Rate{Above: 5, Loss: 2}), api.ErrOrder},
		{"above turned", rate(api.Rate{Above: 5, Loss: 1}, api.Rate{Above: 4, Loss: 2}), api.ErrOrder},
		{"loss twice", rate(api.Rate{Above: 5, Loss: 2}, api.Rate{Above: 6, Loss: 2}), api.OK},
		{"loss turned", rate(api.Rate{Above: 5, Loss: 2}, api.Rate{Above: 6, Loss: 1}), api.ErrOrder},
	})
}

// P4.1, R1: of two errors the one is told that the chapter names first.
func TestCheckOrder(t *testing.T) {
	wrong := api.Box{Room: 5, Ice: span(2, 1), Melt: span(-1, 0), Cold: span(5, 5), Warm: span(4, 4)}
	run(t, []checkCase{
		{"hall, then boxes", func(c *api.Cellar) { c.Hall, c.Boxes = span(6, 5), make([]api.Box, 7) }, api.ErrOrder},
		{"number of boxes first", func(c *api.Cellar) { c.Boxes = slices.Repeat([]api.Box{wrong}, 7) }, api.ErrFull},
		{"room, then ice", ofBox(func(b *api.Box) { b.Room, b.Ice = -1, span(2, 1) }), api.ErrRange},
		{"ice, then melt", ofBox(func(b *api.Box) { *b = wrong }), api.ErrOrder},
		{"melt, then cold", ofBox(func(b *api.Box) { b.Melt, b.Cold = span(2, 1), span(-301, 0) }), api.ErrOrder},
		{"cold, then warm", ofBox(func(b *api.Box) { b.Cold, b.Warm = span(2, 1), span(0, 401) }), api.ErrOrder},
		{"warm, then both", ofBox(func(b *api.Box) { b.Cold, b.Warm = span(60, 60), span(50, 401) }), api.ErrRange},
		{"box by box", func(c *api.Cellar) { c.Boxes = []api.Box{{Cold: span(51, 52)}, {Room: -1}} }, api.ErrClash},
		{"boxes, then fillings", func(c *api.Cellar) { c.Boxes[0].Cold, c.Fillings = span(51, 52), make([]api.Filling, 21) }, api.ErrClash},
		{"number of fillings first", func(c *api.Cellar) { c.Fillings = slices.Repeat([]api.Filling{{Box: 9}}, 21) }, api.ErrFull},
		{"box of a filling, then its hour", fill(api.Filling{Box: 1, Hour: -1}), api.ErrMissing},
		{"hour of a filling, then the order", fill(api.Filling{Hour: 5}, api.Filling{Hour: -1}), api.ErrRange},
		{"grams of a filling, then the order", fill(api.Filling{Hour: 5}, api.Filling{Hour: 4, Grams: -1}), api.ErrRange},
		{"filling by filling", fill(api.Filling{Hour: 5}, api.Filling{Hour: 4}, api.Filling{Box: 9}), api.ErrOrder},
		{"fillings, then rates", func(c *api.Cellar) { c.Fillings[0].Box, c.Rates = 1, nil }, api.ErrMissing},
		{"number of rates first", func(c *api.Cellar) { c.Rates = slices.Repeat([]api.Rate{{Above: 401}}, 7) }, api.ErrFull},
		{"above, then the order", rate(api.Rate{Above: 5}, api.Rate{Above: -301}), api.ErrRange},
		{"loss, then the order", rate(api.Rate{Above: 5}, api.Rate{Above: 4, Loss: -1}), api.ErrRange},
		{"rate by rate", rate(api.Rate{Above: 5}, api.Rate{Above: 4}, api.Rate{Above: 401}), api.ErrOrder},
	})
}

// run holds Check, and all that return its error, against what is wanted; all other arguments are wrong too, but this comes later.
func run(t *testing.T, cases []checkCase) {
	t.Helper()
	for _, k := range cases {
		c := changed(k.change)
		if e := cold.Check(c); e != k.want {
			t.Errorf("%s: %v, want %v", k.name, e, k.want)
		}
		if k.want == api.OK {
			continue
		}
		l := api.Lot{Born: -1}
		lots := slices.Repeat([]api.Lot{l}, 21)
		checked := cold.CheckLot(c, l)
		ice, a := cold.Ice(c, 9, -1)
		verdict, b := cold.Cold(c, 9, -1)
		lost, d := cold.Lost(c, l, -1)
		fresh, f := cold.Fresh(c, l, -1)
		last, g := cold.Last(c, l)
		errors, s := cold.Sell(c, lots, make([]api.Sold, 41))
		scoops, p := cold.Fill(c, 9, nil, 0, 0)
		text, w := cold.Write(c, lots)
		for _, got := range []api.Errno{checked, a, b, d, f, g, s, p, w} {
			if got != k.want {
				t.Errorf("%s: %v, want %v", k.name, got, k.want)
			}
		}
		if ice != span(0, 0) || verdict != 0 || lost != span(0, 0) || fresh != 0 || last != 0 || errors != nil || scoops != nil || text != "" {
			t.Errorf("%s: results beside an error", k.name)
		}
	}
}

type lotCase struct {
	name string
	l    api.Lot
	want api.Errno
}

// stays is the lot L, born in an hour, with these stays.
func stays(born int, stays ...api.Stay) api.Lot {
	return api.Lot{Born: born, Keeps: 60, Stays: stays}
}

// P4.1, R1: each error of a lot; of two errors the one is told that the chapter names first.
func TestLotErrors(t *testing.T) {
	runLots(t, []lotCase{
		{"L", lot(), api.OK},
		{"nothing", api.Lot{}, api.OK},
		{"born too early", stays(-1), api.ErrRange},
		{"born in the last hour", stays(239), api.OK},
		{"born too late", stays(240), api.ErrRange},
		{"keeps below 0", keeping(-1), api.ErrRange},
		{"keeps nothing", keeping(0), api.OK},
		{"keeps most", keeping(100000), api.OK},
		{"keeps too much", keeping(100001), api.ErrRange},
		{"9 stays", stays(0, make([]api.Stay, 9)...), api.ErrFull},
		{"no box", stays(0, api.Stay{Box: 1, To: 1}), api.ErrMissing},
		{"box below 0", stays(0, api.Stay{Box: -1, To: 1}), api.ErrMissing},
		{"from below 0", stays(0, api.Stay{From: -1, To: 1}), api.ErrRange},
		{"from too much", stays(0, api.Stay{From: 241, To: 1}), api.ErrRange},
		{"to below 0", stays(0, api.Stay{From: 5, To: -1}), api.ErrRange},
		{"to most", stays(0, api.Stay{From: 239, To: 240}), api.OK},
		{"to too much", stays(0, api.Stay{From: 239, To: 241}), api.ErrRange},
		{"from most", stays(0, api.Stay{From: 240, To: 240}), api.ErrOrder},
		{"no hour", stays(0, api.Stay{From: 5, To: 5}), api.ErrOrder},
		{"turned", stays(0, api.Stay{From: 6, To: 5}), api.ErrOrder},
		{"from when it is born", stays(5, api.Stay{From: 5, To: 6}), api.OK},
		{"before it is born", stays(6, api.Stay{From: 5, To: 9}), api.ErrOrder},
		{"one after the other", stays(0, api.Stay{To: 5}, api.Stay{From: 5, To: 7}), api.OK},
		{"two at once", stays(0, api.Stay{To: 5}, api.Stay{From: 4, To: 7}), api.ErrOrder},
		{"stays turned", stays(0, api.Stay{From: 5, To: 7}, api.Stay{From: 1, To: 2}), api.ErrOrder},
		{"the last but one is before", stays(0, api.Stay{To: 2}, api.Stay{From: 5, To: 7}, api.Stay{From: 3, To: 4}), api.ErrOrder},
		{"number first", other(func(l *api.Lot) { l.Stays = slices.Repeat([]api.Stay{{Box: 9}}, 9) }), api.ErrFull},
		{"born, then stays", stays(240, make([]api.Stay, 9)...), api.ErrRange},
		{"keeps, then stays", api.Lot{Keeps: -1, Stays: make([]api.Stay, 9)}, api.ErrRange},
		{"box, then from", stays(0, api.Stay{Box: 9, From: -1}), api.ErrMissing},
		{"to, then the order", stays(0, api.Stay{From: 5, To: -1}), api.ErrRange},
		{"stay by stay", stays(0, api.Stay{From: 5, To: 5}, api.Stay{Box: 9}), api.ErrOrder},
	})
	c, l := full()
	if e := cold.CheckLot(c, l); e != api.OK {
		t.Error(e)
	}
}

// runLots holds CheckLot, and all that return its error, against what is wanted.
func runLots(t *testing.T, cases []lotCase) {
	t.Helper()
	for _, k := range cases {
		if e := cold.CheckLot(cellar(), k.l); e != k.want {
			t.Errorf("%s: %v, want %v", k.name, e, k.want)
		}
		if k.want == api.OK {
			continue
		}
		lots := []api.Lot{lot(), k.l, {Stays: []api.Stay{{Box: 9}}}}
		lost, a := cold.Lost(cellar(), k.l, -1)
		fresh, b := cold.Fresh(cellar(), k.l, -1)
		last, d := cold.Last(cellar(), k.l)
		errors, s := cold.Sell(cellar(), lots, make([]api.Sold, 41))
		text, w := cold.Write(cellar(), lots)
		for _, got := range []api.Errno{a, b, d, s, w} {
			if got != k.want {
				t.Errorf("%s: %v, want %v", k.name, got, k.want)
			}
		}
		if lost != span(0, 0) || fresh != 0 || last != 0 || errors != nil || text != "" {
			t.Errorf("%s: results beside an error", k.name)
		}
	}
}

// P4.1, P4.2: the errors of boxes and hours.
func TestHourErrors(t *testing.T) {
	for _, k := range []struct {
		box, hour int
		want      api.Errno
	}{
		{0, 0, api.OK}, {0, 239, api.OK}, {0, 240, api.ErrRange}, {0, -1, api.ErrRange}, {0, math.MaxInt, api.ErrRange},
		{1, 0, api.ErrMissing}, {-1, 0, api.ErrMissing}, {1, 240, api.ErrMissing}, {math.MinInt, math.MinInt, api.ErrMissing},
	} {
		ice, e := cold.Ice(cellar(), k.box, k.hour)
		verdict, f := cold.Cold(cellar(), k.box, k.hour)
		if e != k.want || f != k.want || e != api.OK && (ice != span(0, 0) || verdict != 0) {
			t.Error(k, ice, verdict, e, f)
		}
	}
	born := stays(5)
	for _, k := range []struct {
		hour int
		want api.Errno
	}{
		{5, api.OK}, {240, api.OK}, {241, api.ErrRange}, {-1, api.ErrRange}, {math.MinInt, api.ErrRange}, {4, api.ErrLate}, {0, api.ErrLate},
	} {
		lost, e := cold.Lost(cellar(), born, k.hour)
		verdict, f := cold.Fresh(cellar(), born, k.hour)
		if e != k.want || f != k.want || e != api.OK && (lost != span(0, 0) || verdict != 0) {
			t.Error(k, lost, verdict, e, f)
		}
	}
}

// P4.3: the errors of Sell, in their order.
func TestSellErrors(t *testing.T) {
	wrong := api.Lot{Born: -1}
	for i, k := range []struct {
		lots  []api.Lot
		sales int
		want  api.Errno
	}{
		{make([]api.Lot, 20), 40, api.OK},
		{make([]api.Lot, 21), 0, api.ErrFull},
		{slices.Repeat([]api.Lot{wrong}, 21), 0, api.ErrFull},
		{[]api.Lot{lot(), wrong}, 41, api.ErrRange},
		{[]api.Lot{lot()}, 41, api.ErrFull},
		{nil, 41, api.ErrFull},
	} {
		errors, e := cold.Sell(cellar(), k.lots, make([]api.Sold, k.sales))
		if e != k.want || e == api.OK && len(errors) != k.sales || e != api.OK && errors != nil {
			t.Error(i, errors, e)
		}
	}
}

// P4.4, R1: the errors of Fill, in their order.
func TestFillErrors(t *testing.T) {
	for i, k := range []struct {
		box          int
		visits       []int
		grams, until int
		want         api.Errno
	}{
		{0, []int{0}, 1, 1, api.OK},
		{0, []int{0, 1, 2, 3, 4, 239}, 100000, 1, api.OK},
		{0, []int{0}, 100000, 240, api.ErrMissing},
		{1, []int{0}, 1, 1, api.ErrMissing},
		{-1, nil, 0, 0, api.ErrMissing},
		{0, nil, 1, 1, api.ErrShort},
		{0, nil, 0, 0, api.ErrShort},
		{0, []int{0, 1, 2, 3, 4, 5, 6}, 1, 1, api.ErrFull},
		{0, []int{-1, -1, -1, -1, -1, -1, -1}, 1, 1, api.ErrFull},
		{0, []int{-1}, 1, 1, api.ErrRange},
		{0, []int{240}, 1, 1, api.ErrRange},
		{0, []int{2, 2}, 1, 1, api.ErrOrder},
		{0, []int{2, 1}, 1, 1, api.ErrOrder},
		{0, []int{2, -1}, 1, 1, api.ErrRange},
		{0, []int{2, 1, 240}, 0, 0, api.ErrOrder},
		{0, []int{2, 240, 1}, 0, 0, api.ErrRange},
		{0, []int{0}, 0, 1, api.ErrRange},
		{0, []int{0}, -1, 1, api.ErrRange},
		{0, []int{0}, 100001, 1, api.ErrRange},
		{0, []int{0}, 1, 0, api.ErrRange},
		{0, []int{0}, 1, -1, api.ErrRange},
		{0, []int{0}, 1, 241, api.ErrRange},
	} {
		if scoops, e := cold.Fill(cellar(), k.box, k.visits, k.grams, k.until); e != k.want || e != api.OK && scoops != nil {
			t.Error(i, scoops, e)
		}
	}
}

// P1: no argument makes a function panic.
func TestAnyArguments(t *testing.T) {
	r := rand.New(rand.NewPCG(1, 4))
	odd := []int{math.MinInt, -301, -1, 0, 1, 2, 3, 5, 8, 239, 240, 241, 400, 401, 1001, 100000, 100001, math.MaxInt}
	pick := func() int { return odd[r.IntN(len(odd))] }
	for range 10000 {
		c := pickCellar(r, 7, 8)
		l := pickLot(r, c, 8)
		switch r.IntN(10) {
		case 0:
			c.Hall = span(pick(), pick())
		case 1:
			c.Boxes = []api.Box{{Room: pick(), Ice: span(pick(), pick()), Melt: span(pick(), pick()), Cold: span(pick(), pick()), Warm: span(pick(), pick())}}
		case 2:
			c.Fillings = []api.Filling{{Box: pick(), Hour: pick(), Grams: pick()}}
		case 3:
			c.Rates = []api.Rate{{Above: pick(), Loss: pick()}}[:r.IntN(2)]
		case 4:
			l.Born, l.Keeps = pick(), pick()
		case 5:
			l.Stays = []api.Stay{{Box: pick(), From: pick(), To: pick()}, {Box: pick(), From: pick(), To: pick()}}
		}
		cold.Ice(c, pick(), pick())
		cold.Cold(c, pick(), pick())
		cold.Lost(c, l, pick())
		cold.Fresh(c, l, pick())
		cold.Last(c, l)
		cold.Sell(c, []api.Lot{l}, []api.Sold{{Lot: pick(), Hour: pick()}})
		cold.Fill(c, pick(), []int{pick(), pick(), pick()}[:r.IntN(4)], pick(), pick())
		if _, e := cold.Write(c, []api.Lot{l}); e != cold.CheckLot(c, l) {
			t.Fatal(c, l, e)
		}
	}
}

// R4: arguments stay as they are, and results share no memory.
func TestMemory(t *testing.T) {
	c, lots := cellar(), []api.Lot{lot(), lot()}
	c.Fillings = append(c.Fillings, api.Filling{Hour: 9, Grams: 9})
	before := copied(c)
	sales, visits := []api.Sold{{Hour: 8}, {Hour: 9}}, []int{2, 3}
	text, _ := cold.Write(c, lots)
	for range 2 {
		errors, _ := cold.Sell(c, lots, sales)
		scoops, _ := cold.Fill(c, 0, visits, 100, 7)
		cold.Ice(c, 0, 239)
		cold.Last(c, lots[0])
		read, stock, _, _ := cold.Read(text)
		if !slices.Equal(errors, []api.Errno{api.OK, api.ErrLate}) || !slices.Equal(scoops, []int{1, 5}) || !same(read, c, stock, lots) {
			t.Error(errors, scoops, read, stock)
		}
		stock[0].Stays = append(stock[0].Stays, api.Stay{Box: 7})
		clear(stock[0].Stays)
		if !same(c, read, lots[1:], stock[1:]) {
			t.Error(stock)
		}
		clear(errors)
		clear(scoops)
		clear(read.Fillings)
	}
	if !same(c, before, lots, []api.Lot{lot(), lot()}) || !slices.Equal(sales, []api.Sold{{Hour: 8}, {Hour: 9}}) || !slices.Equal(visits, []int{2, 3}) {
		t.Error(c, lots, sales, visits)
	}
}
