package vault_test

import (
	"math"
	"math/rand/v2"
	"slices"
	"testing"

	"shambles/api"
	"shambles/vault"
)

type checkCase struct {
	name   string
	change func(h *api.Hall)
	want   api.Errno
}

// P3.1: each bound of the size, the cells and the bays of a hall, from both of its sides.
func TestHallBounds(t *testing.T) {
	run(t, []checkCase{
		{"as it is", func(h *api.Hall) {}, api.OK},
		{"most of all", func(h *api.Hall) { *h = full() }, api.OK},
		{"wide 0", func(h *api.Hall) { h.Wide = 0 }, api.ErrRange},
		{"wide below 0", func(h *api.Hall) { h.Wide = math.MinInt }, api.ErrRange},
		{"wide too much", func(h *api.Hall) { *h = full(); h.Wide = 7 }, api.ErrRange},
		{"wide 1", func(h *api.Hall) { h.Wide, h.Water, h.Shut, h.Bay.X, h.Bears = 1, nil, nil, 1, []int{1, 2} }, api.OK},
		{"deep 0", func(h *api.Hall) { h.Deep = 0 }, api.ErrRange},
		{"deep below 0", func(h *api.Hall) { h.Deep = -1 }, api.ErrRange},
		{"deep too much", func(h *api.Hall) { *h = full(); h.Deep = 5 }, api.ErrRange},
		{"deep 1", func(h *api.Hall) { h.Deep, h.Water, h.Shut, h.Bears = 1, nil, nil, []int{1, 2} }, api.OK},
		{"no water", func(h *api.Hall) { h.Water = nil }, api.OK},
		{"empty water", func(h *api.Hall) { h.Water = []api.Cell{} }, api.OK},
		{"too much water", func(h *api.Hall) { *h = full(); h.Water = append(h.Water, api.Cell{}) }, api.ErrFull},
		{"water too far to the right", func(h *api.Hall) { h.Water[0].X = 3 }, api.ErrMissing},
		{"water too far to the left", func(h *api.Hall) { h.Water[0].X = -1 }, api.ErrMissing},
		{"water too far behind", func(h *api.Hall) { h.Water[1].Y = 2 }, api.ErrMissing},
		{"water too far in front", func(h *api.Hall) { h.Water[1].Y = -1 }, api.ErrMissing},
		{"water twice", func(h *api.Hall) { h.Water[1] = h.Water[0] }, api.ErrExists},
		{"nothing shut", func(h *api.Hall) { h.Shut = nil }, api.OK},
		{"too much shut", func(h *api.Hall) { *h = full(); h.Shut = append(h.Shut, api.Cell{}) }, api.ErrFull},
		{"shut too far to the right", func(h *api.Hall) { h.Shut[0].X = 3 }, api.ErrMissing},
		{"shut too far to the left", func(h *api.Hall) { h.Shut[0].X = -1 }, api.ErrMissing},
		{"shut too far behind", func(h *api.Hall) { h.Shut[0].Y = 2 }, api.ErrMissing},
		{"shut too far in front", func(h *api.Hall) { h.Shut[0].Y = -1 }, api.ErrMissing},
		{"shut twice", func(h *api.Hall) { h.Shut = append(h.Shut, h.Shut[0]) }, api.ErrExists},
		{"shut with water", func(h *api.Hall) { h.Shut[0] = h.Water[0] }, api.OK},
		{"bay as wide as the hall", func(h *api.Hall) { h.Bay.X, h.Bears = 3, []int{1, 2} }, api.OK},
		{"bay too wide", func(h *api.Hall) { h.Bay.X = 4 }, api.ErrRange},
		{"bay 0 wide", func(h *api.Hall) { h.Bay.X = 0 }, api.ErrRange},
		{"bay as deep as the hall", func(h *api.Hall) { h.Bay.Y, h.Bears = 2, []int{1, 2} }, api.OK},
		{"bay too deep", func(h *api.Hall) { h.Bay.Y = 3 }, api.ErrRange},
		{"bay 0 deep", func(h *api.Hall) { h.Bay.Y = 0 }, api.ErrRange},
		{"one place a bay", func(h *api.Hall) { h.Bay, h.Bears = api.Cell{X: 1, Y: 1}, make([]int, 6) }, api.OK},
		{"a number for each whole bay", func(h *api.Hall) { h.Bears = []int{1, 2} }, api.ErrForm},
		{"bears a number less", func(h *api.Hall) { h.Bears = h.Bears[:3] }, api.ErrForm},
		{"bears a number more", func(h *api.Hall) { h.Bears = append(h.Bears, 1) }, api.ErrForm},
		{"no bears", func(h *api.Hall) { h.Bears = nil }, api.ErrForm},
		{"bears 0", func(h *api.Hall) { h.Bears[3] = 0 }, api.OK},
		{"bears below 0", func(h *api.Hall) { h.Bears[3] = -1 }, api.ErrRange},
		{"bears most", func(h *api.Hall) { h.Bears[3] = 10000000 }, api.OK},
		{"bears too much", func(h *api.Hall) { h.Bears[3] = 10000001 }, api.ErrRange},
	})
}

// P3.1: each bound of the kinds of a hall, from both of its sides.
func TestKindBounds(t *testing.T) {
	run(t, []checkCase{
		{"no kinds", func(h *api.Hall) { h.Kinds = nil }, api.ErrShort},
		{"empty kinds", func(h *api.Hall) { h.Kinds = []api.Kind{} }, api.ErrShort},
		{"too many kinds", func(h *api.Hall) { *h = full(); h.Kinds = append(h.Kinds, h.Kinds[0]) }, api.ErrFull},
		{"one kind", func(h *api.Hall) { h.Kinds = []api.Kind{{Away: []int{0}}} }, api.OK},
		{"load below 0", func(h *api.Hall) { h.Kinds[1].Load = span(-1, 5) }, api.ErrRange},
		{"load too much", func(h *api.Hall) { h.Kinds[1].Load = span(5, 1000001) }, api.ErrRange},
		{"load widest", func(h *api.Hall) { h.Kinds[1].Load = span(0, 1000000) }, api.OK},
		{"load of one number", func(h *api.Hall) { h.Kinds[1].Load = span(7, 7) }, api.OK},
		{"load turned", func(h *api.Hall) { h.Kinds[1].Load = span(8, 7) }, api.ErrOrder},
		{"load turned and too much", func(h *api.Hall) { h.Kinds[1].Load = span(1000001, 7) }, api.ErrRange},
		{"away a number less", func(h *api.Hall) { h.Kinds[1].Away = []int{0} }, api.ErrForm},
		{"away a number more", func(h *api.Hall) { h.Kinds[1].Away = []int{0, 0, 0} }, api.ErrForm},
		{"no away", func(h *api.Hall) { h.Kinds[1].Away = nil }, api.ErrForm},
		{"away below 0", func(h *api.Hall) { h.Kinds[1].Away[1] = -1 }, api.ErrRange},
		{"away most", func(h *api.Hall) { h.Kinds[1].Away[1] = 9 }, api.OK},
		{"away too much", func(h *api.Hall) { h.Kinds[1].Away[1] = 10 }, api.ErrRange},
		{"rent below 0", func(h *api.Hall) { h.Kinds[1].Rent = -1 }, api.ErrRange},
		{"rent 0", func(h *api.Hall) { h.Kinds[1].Rent = 0 }, api.OK},
		{"rent most", func(h *api.Hall) { h.Kinds[1].Rent = 1000000 }, api.OK},
		{"rent too much", func(h *api.Hall) { h.Kinds[1].Rent = 1000001 }, api.ErrRange},
		{"most below 0", func(h *api.Hall) { h.Kinds[1].Most = -1 }, api.ErrRange},
		{"most 0", func(h *api.Hall) { h.Kinds[1].Most = 0 }, api.OK},
		{"most more than places", func(h *api.Hall) { h.Kinds[1].Most = 24 }, api.OK},
		{"most too much", func(h *api.Hall) { h.Kinds[1].Most = 25 }, api.ErrRange},
	})
}

// P3.1, R1: of two errors the one is told that the chapter names first.
func TestCheckOrder(t *testing.T) {
	none := api.Cell{X: 9, Y: 9}
	run(t, []checkCase{
		{"wide, then water", func(h *api.Hall) { h.Wide, h.Water = 7, make([]api.Cell, 25) }, api.ErrRange},
		{"deep, then water", func(h *api.Hall) { h.Deep, h.Water[0] = 5, none }, api.ErrRange},
		{"number of water first", func(h *api.Hall) { h.Water = slices.Repeat([]api.Cell{none}, 25) }, api.ErrFull},
		{"missing water first", func(h *api.Hall) { h.Water = []api.Cell{none, none} }, api.ErrMissing},
		{"water, cell by cell", func(h *api.Hall) { h.Water = append(h.Water, h.Water[0], none) }, api.ErrExists},
		{"water, then shut", func(h *api.Hall) { h.Water[1], h.Shut = none, make([]api.Cell, 25) }, api.ErrMissing},
		{"water twice, then shut", func(h *api.Hall) { h.Water[1], h.Shut[0] = h.Water[0], none }, api.ErrExists},
		{"number of shut first", func(h *api.Hall) { h.Shut = slices.Repeat([]api.Cell{none}, 25) }, api.ErrFull},
		{"shut, cell by cell", func(h *api.Hall) { h.Shut = append(h.Shut, h.Shut[0], none) }, api.ErrExists},
		{"shut, then bay", func(h *api.Hall) { h.Shut[0], h.Bay.X = none, 0 }, api.ErrMissing},
		{"bay, then bears", func(h *api.Hall) { h.Bay.X, h.Bears = 0, nil }, api.ErrRange},
		{"depth of the bay, then bears", func(h *api.Hall) { h.Bay.Y, h.Bears = -1, nil }, api.ErrRange},
		{"number of bears first", func(h *api.Hall) { h.Bears = []int{-1} }, api.ErrForm},
		{"bears, then kinds", func(h *api.Hall) { h.Bears, h.Kinds = nil, nil }, api.ErrForm},
		{"each of bears, then kinds", func(h *api.Hall) { h.Bears[3], h.Kinds = -1, nil }, api.ErrRange},
		{"number of kinds first", func(h *api.Hall) { h.Kinds = slices.Repeat([]api.Kind{{Load: span(2, 1)}}, 7) }, api.ErrFull},
		{"load, then away", func(h *api.Hall) { h.Kinds[0] = api.Kind{Load: span(2, 1), Rent: -1} }, api.ErrOrder},
		{"number of away, then each", func(h *api.Hall) { h.Kinds[0].Away = []int{-1} }, api.ErrForm},
		{"away, then rent", func(h *api.Hall) { h.Kinds[0].Away, h.Kinds[0].Rent = nil, -1 }, api.ErrForm},
		{"kind by kind", func(h *api.Hall) { h.Kinds[0].Most, h.Kinds[1].Load = 25, span(2, 1) }, api.ErrRange},
		{"away before the next kind", func(h *api.Hall) { h.Kinds[0].Away, h.Kinds[1].Load = nil, span(2, 1) }, api.ErrForm},
	})
}

// run holds Check, and all that return its error, against what is wanted; the layout is wrong too, but this comes later.
func run(t *testing.T, cases []checkCase) {
	t.Helper()
	for _, c := range cases {
		h := changed(c.change)
		if e := vault.Check(h); e != c.want {
			t.Errorf("%s: %v, want %v", c.name, e, c.want)
		}
		if c.want == api.OK {
			continue
		}
		l := slices.Repeat([]api.Put{put(9, 9, 9)}, 25)
		layout := vault.CheckLayout(h, l)
		loads, a := vault.Loads(h, l)
		verdict, b := vault.Bears(h, l)
		room, r := vault.Room(h, l, 9)
		earned, m := vault.Earns(h, l)
		chosen, o := vault.Best(h)
		text, w := vault.Write(h)
		for _, got := range []api.Errno{layout, a, b, r, m, o, w} {
			if got != c.want {
				t.Errorf("%s: %v, want %v", c.name, got, c.want)
			}
		}
		if loads != nil || verdict != 0 || room != nil || earned != 0 || chosen != nil || text != "" {
			t.Errorf("%s: results beside an error", c.name)
		}
	}
}

type layoutCase struct {
	name string
	h    api.Hall
	l    []api.Put
	want api.Errno
}

// P3.1, P3.2, P3.3: each error of a layout.
func TestLayoutErrors(t *testing.T) {
	far := changed(func(h *api.Hall) { h.Kinds[0].Away[1], h.Kinds[1].Away[0] = 0, 2 })
	wide := full()
	wide.Shut = nil
	wide.Kinds[0].Away[0] = 0
	runLayouts(t, []layoutCase{
		{"none", hall(), nil, api.OK},
		{"empty", hall(), []api.Put{}, api.OK},
		{"L", hall(), stalls(), api.OK},
		{"too near for the first kind", hall(), stalls(put(0, 2, 1)), api.ErrClash},
		{"shut", hall(), stalls(put(1, 1, 1)), api.ErrState},
		{"without water", hall(), stalls(put(0, 1, 0)), api.ErrShort},
		{"water that is not needed", hall(), []api.Put{put(1, 0, 0), put(1, 2, 1)}, api.OK},
		{"a place twice", hall(), stalls(put(1, 2, 0)), api.ErrExists},
		{"a place twice, another kind", hall(), stalls(put(1, 0, 0)), api.ErrExists},
		{"too far to the right", hall(), stalls(put(1, 3, 0)), api.ErrMissing},
		{"too far to the left", hall(), stalls(put(1, -1, 0)), api.ErrMissing},
		{"too far behind", hall(), stalls(put(1, 0, 2)), api.ErrMissing},
		{"too far in front", hall(), stalls(put(1, 0, -1)), api.ErrMissing},
		{"no kind", hall(), stalls(put(2, 2, 1)), api.ErrKind},
		{"kind below 0", hall(), stalls(put(-1, 2, 1)), api.ErrKind},
		{"far enough sideways", hall(), []api.Put{put(0, 0, 0), put(1, 2, 0)}, api.OK},
		{"too near sideways", hall(), []api.Put{put(0, 0, 0), put(1, 1, 0)}, api.ErrClash},
		{"too near behind", hall(), []api.Put{put(0, 0, 0), put(1, 0, 1)}, api.ErrClash},
		{"too near for the other one", far, []api.Put{put(0, 0, 0), put(1, 1, 0)}, api.ErrClash},
		{"too near, in the other order", hall(), []api.Put{put(1, 1, 0), put(0, 0, 0)}, api.ErrClash},
		{"too near for the other one, in the other order", far, []api.Put{put(1, 1, 0), put(0, 0, 0)}, api.ErrClash},
		{"far enough askew", far, []api.Put{put(1, 1, 0), put(0, 2, 1)}, api.OK},
		{"the first one of several is too near", hall(), []api.Put{put(0, 0, 0), put(1, 2, 0), put(1, 1, 0)}, api.ErrClash},
		{"as many as there may be", hall(), []api.Put{put(1, 0, 0), put(1, 1, 0), put(1, 2, 0)}, api.OK},
		{"one more", hall(), []api.Put{put(1, 0, 0), put(1, 1, 0), put(1, 2, 0), put(1, 0, 1)}, api.ErrOver},
		{"none may be", changed(func(h *api.Hall) { h.Kinds[1].Most = 0 }), stalls(), api.ErrOver},
		{"too heavy", changed(func(h *api.Hall) { clear(h.Bears) }), stalls(), api.OK},
		{"all places", wide, everywhere(wide), api.OK},
		{"all places, and one more", wide, append(everywhere(wide), put(0, 0, 0)), api.ErrFull},
		{"all shut", full(), []api.Put{put(0, 5, 3)}, api.ErrState},
	})
}

// everywhere is a stall of the kind 0 at each place.
func everywhere(h api.Hall) []api.Put {
	var l []api.Put
	for _, c := range cells(h) {
		l = append(l, api.Put{At: c})
	}
	return l
}

// P3.1, R1: of two errors of a layout the one is told that the chapter names first.
func TestLayoutOrder(t *testing.T) {
	single := changed(func(h *api.Hall) { h.Kinds[1].Most = 1 })
	runLayouts(t, []layoutCase{
		{"number first", hall(), slices.Repeat([]api.Put{put(9, 9, 9)}, 25), api.ErrFull},
		{"place, then kind", hall(), []api.Put{put(9, 9, 9)}, api.ErrMissing},
		{"shut, then kind", hall(), []api.Put{put(9, 1, 1)}, api.ErrState},
		{"shut, then water", hall(), []api.Put{put(0, 1, 1)}, api.ErrState},
		{"kind, then twice", hall(), stalls(put(9, 0, 0)), api.ErrKind},
		{"twice, then water", hall(), stalls(put(0, 2, 0)), api.ErrExists},
		{"twice, then too near", hall(), stalls(put(1, 0, 0)), api.ErrExists},
		{"water, then too near", hall(), []api.Put{put(1, 2, 0), put(0, 1, 0)}, api.ErrShort},
		{"put by put", hall(), []api.Put{put(0, 0, 0), put(1, 1, 0), put(9, 9, 9)}, api.ErrClash},
		{"water before the next put", hall(), []api.Put{put(0, 1, 0), put(1, 1, 1)}, api.ErrShort},
		{"too many at last", single, []api.Put{put(1, 0, 0), put(1, 1, 0), put(1, 3, 0)}, api.ErrMissing},
		{"too near, then too many", single, []api.Put{put(1, 0, 0), put(1, 2, 0), put(0, 2, 1)}, api.ErrClash},
		{"the number of one kind, whatever the other one", single, []api.Put{put(1, 0, 0), put(1, 1, 0)}, api.ErrOver},
	})
}

// runLayouts holds CheckLayout, and all that return its error, against what is wanted.
func runLayouts(t *testing.T, cases []layoutCase) {
	t.Helper()
	for _, c := range cases {
		if e := vault.CheckLayout(c.h, c.l); e != c.want {
			t.Errorf("%s: %v, want %v", c.name, e, c.want)
		}
		loads, a := vault.Loads(c.h, c.l)
		verdict, b := vault.Bears(c.h, c.l)
		_, r := vault.Room(c.h, c.l, 0)
		earned, m := vault.Earns(c.h, c.l)
		for _, got := range []api.Errno{a, b, r, m} {
			if got != c.want {
				t.Errorf("%s: %v, want %v", c.name, got, c.want)
			}
		}
		if c.want == api.OK {
			continue
		}
		room, r := vault.Room(c.h, c.l, 9)
		if loads != nil || verdict != 0 || earned != 0 || room != nil || r != c.want {
			t.Errorf("%s: results beside an error, or %v", c.name, r)
		}
	}
}

// P3.1: the first error of any puts.
func TestAnyPuts(t *testing.T) {
	r := rand.New(rand.NewPCG(3, 1))
	met := map[api.Errno]int{}
	for h := range halls(4000) {
		for range 10 {
			var l []api.Put
			for range r.IntN(5) {
				l = append(l, put(r.IntN(len(h.Kinds)*8+1)/8, r.IntN(h.Wide*8+1)/8, r.IntN(h.Deep*8+1)/8))
			}
			e := vault.CheckLayout(h, l)
			if e != wantLayout(h, l) {
				t.Fatal(h, l, e)
			}
			met[e]++
		}
	}
	for _, e := range []api.Errno{api.OK, api.ErrMissing, api.ErrState, api.ErrKind, api.ErrExists, api.ErrShort, api.ErrClash, api.ErrOver} {
		if met[e] < 100 {
			t.Error("seldom met:", e, met[e])
		}
	}
}

// P1: no argument makes a function panic.
func TestAnyArguments(t *testing.T) {
	r := rand.New(rand.NewPCG(1, 3))
	odd := []int{math.MinInt, -1, 0, 1, 2, 3, 4, 5, 6, 7, 24, 25, 1000001, math.MaxInt}
	pick := func() int { return odd[r.IntN(len(odd))] }
	for range 20000 {
		h := pickHall(r, 4, 3, 7, 5)
		switch r.IntN(8) {
		case 0:
			h.Wide, h.Deep = pick(), pick()
		case 1:
			h.Bay = api.Cell{X: pick(), Y: pick()}
		case 2:
			h.Water, h.Shut = []api.Cell{{X: pick(), Y: pick()}}, []api.Cell{{X: pick(), Y: pick()}}
		case 3:
			h.Bears = []int{pick(), pick()}[:r.IntN(3)]
		case 4:
			h.Kinds[0] = api.Kind{Load: span(pick(), pick()), Away: []int{pick()}, Rent: pick(), Most: pick()}
		case 5:
			h.Kinds[0].Away = nil
		}
		l := []api.Put{put(pick(), pick(), pick()), put(0, 0, 0), put(pick(), 1, 1)}[:r.IntN(4)]
		valid := vault.Check(h) == api.OK
		vault.CheckLayout(h, l)
		vault.Loads(h, l)
		vault.Bears(h, l)
		vault.Room(h, l, pick())
		vault.Earns(h, l)
		vault.Best(h)
		if _, e := vault.Write(h); valid != (e == api.OK) {
			t.Fatal(h, e)
		}
	}
}

// R4: arguments stay as they are, and results share no memory.
func TestMemory(t *testing.T) {
	h, l := hall(), stalls()
	for range 2 {
		loads, _ := vault.Loads(h, l)
		room, _ := vault.Room(h, l, 1)
		chosen, _ := vault.Best(h)
		read, _, _ := vault.Read(drawing)
		if !slices.Equal(loads, []api.Span{span(200, 300), span(100, 150), {}, {}}) || !slices.Equal(room, []api.Cell{{X: 2, Y: 1}}) ||
			!slices.Equal(chosen, stalls(put(1, 2, 1))) || !same(read, hall()) {
			t.Error(loads, room, chosen, read)
		}
		read.Kinds[0].Away = append(read.Kinds[0].Away, 7)
		clear(read.Kinds[0].Away)
		read.Water = append(read.Water, api.Cell{X: 1})
		if !slices.Equal(read.Kinds[1].Away, []int{1, 0}) || !slices.Equal(read.Shut, []api.Cell{{X: 1, Y: 1}}) {
			t.Error(read)
		}
		clear(loads)
		clear(room)
		clear(chosen)
	}
	if !same(h, hall()) || !slices.Equal(l, stalls()) {
		t.Error(h, l)
	}
	roomy := append(stalls(), put(9, 9, 9))
	vault.CheckLayout(h, roomy[:2])
	vault.Room(h, roomy[:2], 1)
	if roomy[2] != put(9, 9, 9) {
		t.Error(roomy)
	}
}
