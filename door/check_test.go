package door_test

import (
	"math"
	"math/rand/v2"
	"slices"
	"testing"

	"shambles/api"
	"shambles/door"
)

type checkCase struct {
	name   string
	change func(h *api.House)
	want   api.Errno
}

// ends is the change of the ends of the second door.
func ends(a, b int) func(h *api.House) {
	return func(h *api.House) { h.Doors[1].A, h.Doors[1].B = a, b }
}

// flow is the change of how many people the second door takes.
func flow(people int) func(h *api.House) { return func(h *api.House) { h.Doors[1].Flow = people } }

// holds is the change of what the second hall holds.
func holds(people int) func(h *api.House) { return func(h *api.House) { h.Holds[1] = people } }

// first is the change of how many people are there at first.
func first(low, high int) func(h *api.House) { return func(h *api.House) { h.First = span(low, high) } }

// ticks is the change of the number of ticks, without counts.
func ticks(many int) func(h *api.House) { return func(h *api.House) { h.Ticks, h.Counts = many, nil } }

// at is the change of the tick and the door of the second count.
func at(tick, door int) func(h *api.House) {
	return func(h *api.House) { h.Counts[1].Tick, h.Counts[1].Door = tick, door }
}

// in is the change of how many people came in at the second count.
func in(low, high int) func(h *api.House) {
	return func(h *api.House) { h.Counts[1].In = span(low, high) }
}

// out is the change of how many people went out at the second count.
func out(low, high int) func(h *api.House) {
	return func(h *api.House) { h.Counts[1].Out = span(low, high) }
}

// P9.1: each error of a house, from both sides of each bound.
func TestCheck(t *testing.T) {
	run(t, []checkCase{
		{"H", func(h *api.House) {}, api.OK},
		{"full", func(h *api.House) { *h = full() }, api.OK},
		{"nothing", func(h *api.House) { *h = api.House{} }, api.ErrShort},
		{"one hall", func(h *api.House) { *h = api.House{Holds: []int{0}} }, api.OK},
		{"no halls", func(h *api.House) { h.Holds = nil }, api.ErrShort},
		{"4 halls", func(h *api.House) { h.Holds = append(h.Holds, 0, 10000) }, api.OK},
		{"5 halls", func(h *api.House) { h.Holds = make([]int, 5) }, api.ErrFull},
		{"holds nobody", holds(0), api.OK},
		{"holds below 0", holds(-1), api.ErrRange},
		{"holds far below 0", holds(math.MinInt), api.ErrRange},
		{"holds most", holds(10000), api.OK},
		{"holds too many", holds(10001), api.ErrRange},
		{"no doors, no counts", func(h *api.House) { h.Doors, h.Counts = nil, nil }, api.OK},
		{"5 doors", func(h *api.House) { h.Doors = append(h.Doors, api.Door{A: -1}, api.Door{B: -1}) }, api.OK},
		{"6 doors", func(h *api.House) { h.Doors = slices.Repeat(h.Doors[:1], 6) }, api.ErrFull},
		{"a door turned", ends(1, 0), api.OK},
		{"a door from outside", ends(-1, 1), api.OK},
		{"a door to outside", ends(0, -1), api.OK},
		{"a door from no hall", ends(2, 1), api.ErrMissing},
		{"a door to no hall", ends(0, 2), api.ErrMissing},
		{"a door from below", ends(-2, 1), api.ErrMissing},
		{"a door to below", ends(0, -2), api.ErrMissing},
		{"a door from far off", ends(math.MaxInt, 1), api.ErrMissing},
		{"a door to far below", ends(0, math.MinInt), api.ErrMissing},
		{"a door to its own hall", ends(1, 1), api.ErrForm},
		{"a door from outside to outside", ends(-1, -1), api.ErrForm},
		{"two doors alike", func(h *api.House) { h.Doors[1] = h.Doors[0] }, api.OK},
		{"flow 0", flow(0), api.OK},
		{"flow below 0", flow(-1), api.ErrRange},
		{"most flow", flow(10000), api.OK},
		{"too much flow", flow(10001), api.ErrRange},
		{"nobody at first", first(0, 0), api.OK},
		{"below 0 at first", first(-1, 0), api.ErrRange},
		{"below 0 at most at first", first(0, -1), api.ErrRange},
		{"most at first", first(10000, 10000), api.OK},
		{"any number at first", first(0, 10000), api.OK},
		{"too many at first", first(0, 10001), api.ErrRange},
		{"too many at least at first", first(10001, 10001), api.ErrRange},
		{"first turned", first(5, 4), api.ErrOrder},
		{"no ticks", ticks(0), api.OK},
		{"ticks below 0", ticks(-1), api.ErrRange},
		{"ticks far below 0", ticks(math.MinInt), api.ErrRange},
		{"12 ticks", ticks(12), api.OK},
		{"13 ticks", ticks(13), api.ErrRange},
		{"no counts", func(h *api.House) { h.Counts = nil }, api.OK},
		{"24 counts", func(h *api.House) { *h = full(); h.Counts = h.Counts[:24] }, api.OK},
		{"25 counts", func(h *api.House) { *h = full(); h.Counts = append(h.Counts, api.Count{}) }, api.ErrFull},
		{"the last tick", at(2, 0), api.OK},
		{"no such tick", at(3, 0), api.ErrRange},
		{"a tick below 0", at(-1, 0), api.ErrRange},
		{"a tick less", func(h *api.House) { h.Ticks = 2 }, api.ErrRange},
		{"a count, but no ticks", func(h *api.House) { h.Ticks = 0 }, api.ErrRange},
		{"the last door", at(1, 2), api.OK},
		{"no such door", at(1, 3), api.ErrMissing},
		{"a door below 0", at(1, -1), api.ErrMissing},
		{"a door far off", at(1, math.MaxInt), api.ErrMissing},
		{"a door between halls", at(1, 1), api.ErrKind},
		{"a door that leads from outside", func(h *api.House) { h.Doors[0].A, h.Doors[0].B = -1, 0 }, api.OK},
		{"the same tick and door", at(0, 0), api.ErrExists},
		{"the same tick and door far before", func(h *api.House) { h.Counts[2].Tick, h.Counts[2].Door = 0, 0 }, api.ErrExists},
		{"the same tick", at(0, 2), api.OK},
		{"ticks in no order", func(h *api.House) { slices.Reverse(h.Counts) }, api.OK},
		{"nobody in", in(0, 0), api.OK},
		{"in below 0", in(-1, 0), api.ErrRange},
		{"in below 0 at most", in(0, -1), api.ErrRange},
		{"any number in", in(0, 10000), api.OK},
		{"too many in", in(0, 10001), api.ErrRange},
		{"in turned", in(2, 1), api.ErrOrder},
		{"nobody out", out(0, 0), api.OK},
		{"out below 0", out(-1, 0), api.ErrRange},
		{"any number out", out(0, 10000), api.OK},
		{"too many out", out(0, 10001), api.ErrRange},
		{"too many out at least", out(math.MaxInt, 0), api.ErrRange},
		{"out turned", out(2, 1), api.ErrOrder},
	})
}

// P9.1, R1: of two errors the one is told that the chapter names first.
func TestCheckOrder(t *testing.T) {
	run(t, []checkCase{
		{"number of halls first", func(h *api.House) { h.Holds = slices.Repeat([]int{-1}, 5) }, api.ErrFull},
		{"no halls, then doors", func(h *api.House) { h.Holds, h.Doors = nil, make([]api.Door, 6) }, api.ErrShort},
		{"halls, then the number of doors", func(h *api.House) { h.Holds[1], h.Doors = -1, make([]api.Door, 6) }, api.ErrRange},
		{"number of doors, then doors", func(h *api.House) { h.Doors = slices.Repeat([]api.Door{{A: 9}}, 6) }, api.ErrFull},
		{"missing, then the same", ends(-2, -2), api.ErrMissing},
		{"missing far, then the same", ends(2, 2), api.ErrMissing},
		{"the same, then the flow", func(h *api.House) { h.Doors[1] = api.Door{A: -1, B: -1, Flow: -1} }, api.ErrForm},
		{"missing, then the flow", func(h *api.House) { h.Doors[1] = api.Door{A: 0, B: 2, Flow: -1} }, api.ErrMissing},
		{"door by door", func(h *api.House) { h.Doors[1].Flow, h.Doors[2].A = -1, 9 }, api.ErrRange},
		{"door by door, turned", func(h *api.House) { h.Doors[1].B, h.Doors[2].Flow = 0, -1 }, api.ErrForm},
		{"doors, then first", func(h *api.House) { h.Doors[2].A, h.First = 9, span(-1, 0) }, api.ErrMissing},
		{"first, then its order", first(5, -1), api.ErrRange},
		{"the order of first, then ticks", func(h *api.House) { h.First, h.Ticks = span(5, 4), -1 }, api.ErrOrder},
		{"ticks, then the number of counts", func(h *api.House) { h.Ticks, h.Counts = 13, make([]api.Count, 25) }, api.ErrRange},
		{"ticks far below 0, then the number of counts", func(h *api.House) { h.Ticks, h.Counts = math.MinInt, make([]api.Count, 25) }, api.ErrRange},
		{"number of counts, then counts", func(h *api.House) { h.Counts = slices.Repeat([]api.Count{{Tick: -1}}, 25) }, api.ErrFull},
		{"tick, then door", at(-1, 3), api.ErrRange},
		{"door, then spans", func(h *api.House) { h.Counts[1].Door, h.Counts[1].In = 3, span(2, 1) }, api.ErrMissing},
		{"kind, then exists", func(h *api.House) { h.Counts[0].Door, h.Counts[1] = 1, h.Counts[0] }, api.ErrKind},
		{"kind, then spans", func(h *api.House) { h.Counts[1].Door, h.Counts[1].In = 1, span(-1, 1) }, api.ErrKind},
		{"exists, then spans", func(h *api.House) { h.Counts[1].Tick, h.Counts[1].In = 0, span(2, 1) }, api.ErrExists},
		{"the order of in, then out", func(h *api.House) { h.Counts[1].In, h.Counts[1].Out = span(2, 1), span(-1, 0) }, api.ErrOrder},
		{"in, then the order of out", func(h *api.House) { h.Counts[1].In, h.Counts[1].Out = span(-1, 1), span(2, 1) }, api.ErrRange},
		{"out, then its order", out(5, -1), api.ErrRange},
		{"count by count", func(h *api.House) { h.Counts[1].Out, h.Counts[2].Tick = span(2, 1), -1 }, api.ErrOrder},
		{"count by count, turned", func(h *api.House) { h.Counts[1].Door, h.Counts[2].In = 9, span(2, 1) }, api.ErrMissing},
	})
}

// run holds Check, and all that return its error, against what is wanted; all other arguments are wrong, but this comes later.
func run(t *testing.T, cases []checkCase) {
	t.Helper()
	for _, k := range cases {
		h := changed(k.change)
		n, a := door.Leave(h, nil, []int{9})
		m, b := door.Admit(h, -1, []int{9})
		v, c := door.Safe(h, -1, -1, []int{9})
		got := []api.Errno{door.Check(h), a, b, c}
		want := slices.Repeat([]api.Errno{k.want}, 4)
		if k.want == api.OK {
			want = []api.Errno{api.OK, api.ErrForm, api.ErrRange, api.ErrRange}
		}
		if !slices.Equal(got, want) || n != 0 || m != 0 || v != 0 {
			t.Errorf("%s: %v, want %v", k.name, got, want)
		}
		text, d := door.Write(h)
		people, e := door.Inside(h)
		if e == api.ErrClash && k.want == api.OK {
			e = api.OK
		}
		if d != k.want || e != k.want || k.want != api.OK && (text != "" || people != nil) {
			t.Errorf("%s: %q %v %v %v, want %v", k.name, text, d, people, e, k.want)
		}
	}
}

// P9.2, R1: the errors of Leave, in their order.
func TestLeaveErrors(t *testing.T) {
	for i, k := range []struct {
		people, closed []int
		want           api.Errno
	}{
		{[]int{1, 1}, nil, api.OK},
		{[]int{0, 10000}, nil, api.ErrLate},
		{nil, nil, api.ErrForm},
		{[]int{1}, nil, api.ErrForm},
		{[]int{1, 1, 1}, nil, api.ErrForm},
		{[]int{-1}, []int{9}, api.ErrForm},
		{[]int{-1, 0}, nil, api.ErrRange},
		{[]int{0, 10001}, nil, api.ErrRange},
		{[]int{math.MinInt, math.MaxInt}, nil, api.ErrRange},
		{[]int{0, -1}, []int{9}, api.ErrRange},
		{[]int{0, 10001}, []int{1, 0}, api.ErrRange},
		{[]int{0, 1}, []int{1, 2}, api.ErrLate},
		{[]int{0, 1}, []int{0, 1, 2}, api.ErrLate},
		{[]int{0, 1}, []int{3}, api.ErrMissing},
		{[]int{0, 1}, []int{-1}, api.ErrMissing},
		{[]int{0, 1}, []int{math.MaxInt}, api.ErrMissing},
		{[]int{0, 1}, []int{1, 1}, api.ErrOrder},
		{[]int{0, 1}, []int{2, 1}, api.ErrOrder},
		{[]int{0, 1}, []int{2, 1, 9}, api.ErrOrder},
		{[]int{0, 1}, []int{2, 9, 1}, api.ErrMissing},
		{[]int{0, 1}, []int{0, 1, 2, 3}, api.ErrMissing},
		{[]int{0, 1}, []int{0, 1, 2, 2}, api.ErrOrder},
	} {
		if n, e := door.Leave(house(), k.people, k.closed); e != k.want || (n == 0) != (e != api.OK) {
			t.Error(i, n, e, k.want)
		}
	}
}

// P9.3, R1: the errors of Admit and of Safe, in their order.
func TestSafeErrors(t *testing.T) {
	clash := changed(func(h *api.House) { h.Counts[2].Out = span(50, 50) })
	far, low := math.MaxInt, math.MinInt
	for i, k := range []struct {
		h           api.House
		at, ticks   int
		closed      []int
		admit, safe api.Errno
	}{
		{house(), 3, 12, []int{0, 2}, api.OK, api.OK},
		{house(), 4, 12, nil, api.OK, api.ErrRange},
		{house(), -1, 12, nil, api.OK, api.ErrRange},
		{house(), far, 12, nil, api.OK, api.ErrRange},
		{house(), 3, 13, nil, api.ErrRange, api.ErrRange},
		{house(), 3, -1, nil, api.ErrRange, api.ErrRange},
		{house(), 3, low, nil, api.ErrRange, api.ErrRange},
		{house(), 3, 13, []int{9}, api.ErrRange, api.ErrRange},
		{house(), 4, 12, []int{9}, api.ErrMissing, api.ErrRange},
		{house(), 3, 12, []int{3}, api.ErrMissing, api.ErrMissing},
		{house(), 3, 12, []int{-1, -1}, api.ErrMissing, api.ErrMissing},
		{house(), 3, 12, []int{0, 0}, api.ErrOrder, api.ErrOrder},
		{house(), 3, 12, []int{2, 1, 3}, api.ErrOrder, api.ErrOrder},
		{clash, 3, 12, nil, api.OK, api.ErrClash},
		{clash, 3, 12, []int{3}, api.ErrMissing, api.ErrMissing},
		{clash, 3, 13, nil, api.ErrRange, api.ErrRange},
		{clash, 4, 12, nil, api.OK, api.ErrRange},
	} {
		n, e := door.Admit(k.h, k.ticks, k.closed)
		v, f := door.Safe(k.h, k.at, k.ticks, k.closed)
		if e != k.admit || f != k.safe || e != api.OK && n != 0 || f != api.OK && v != 0 {
			t.Error(i, n, e, v, f)
		}
	}
}

// P9.4: each error of a kitchen, from both sides of each bound, in their order.
func TestKitchenErrors(t *testing.T) {
	with := func(meals int, numbers ...int) api.Kitchen {
		return api.Kitchen{Meals: make([]int, meals), Gifts: gifts(numbers...)}
	}
	for i, c := range []struct {
		k    api.Kitchen
		want api.Errno
	}{
		{kitchen(), api.OK},
		{api.Kitchen{}, api.OK},
		{with(5), api.OK},
		{with(6), api.ErrFull},
		{api.Kitchen{Meals: []int{0, 10000}}, api.OK},
		{api.Kitchen{Meals: []int{0, 10001}}, api.ErrRange},
		{api.Kitchen{Meals: []int{-1}}, api.ErrRange},
		{api.Kitchen{Meals: slices.Repeat([]int{-1}, 6)}, api.ErrFull},
		{api.Kitchen{Meals: []int{-1}, Gifts: make([]api.Gift, 6)}, api.ErrRange},
		{api.Kitchen{Meals: []int{1}, Gifts: make([]api.Gift, 5)}, api.OK},
		{api.Kitchen{Meals: []int{1}, Gifts: make([]api.Gift, 6)}, api.ErrFull},
		{api.Kitchen{Meals: []int{1}, Gifts: slices.Repeat(gifts(-1, 0, 0), 6)}, api.ErrFull},
		{with(0, 0, 0, 0), api.ErrMissing},
		{with(2, 1, 1, 10000), api.OK},
		{with(2, 2, 1, 0), api.ErrMissing},
		{with(2, -1, 1, 0), api.ErrMissing},
		{with(2, 0, 2, 0), api.ErrMissing},
		{with(2, 0, -1, 0), api.ErrMissing},
		{with(2, math.MinInt, math.MaxInt, 0), api.ErrMissing},
		{with(2, 1, 0, 0), api.ErrOrder},
		{with(2, 1, 2, -1), api.ErrMissing},
		{with(2, 1, 0, -1), api.ErrOrder},
		{with(2, 0, 1, -1), api.ErrRange},
		{with(2, 0, 1, 10001), api.ErrRange},
		{with(2, 0, 1, 0, 0, 1, math.MaxInt), api.ErrRange},
		{with(2, 0, 1, -1, 2, 1, 0), api.ErrRange},
		{with(2, 1, 0, 0, 2, 1, 0), api.ErrOrder},
	} {
		s, spoils, e := door.Feed(c.k)
		if f := door.CheckKitchen(c.k); f != c.want || e != c.want || e != api.OK && (s != nil || spoils != 0) {
			t.Error(i, s, spoils, e, f, c.want)
		}
	}
}

// P1: no argument makes a function panic.
func TestAnyArguments(t *testing.T) {
	r := rand.New(rand.NewPCG(1, 9))
	odd := []int{math.MinInt, -2, -1, 0, 1, 2, 3, 4, 12, 13, 9999, 10000, 10001, math.MaxInt}
	pick := func() int { return odd[r.IntN(len(odd))] }
	list := func() []int {
		var numbers []int
		for range r.IntN(5) {
			numbers = append(numbers, pick())
		}
		return numbers
	}
	for range 5000 {
		h := pickHouse(r, great)
		switch r.IntN(5) {
		case 0:
			h.Holds = list()
		case 1:
			h.Doors = append(h.Doors, api.Door{A: pick(), B: pick(), Flow: pick()})
		case 2:
			h.First, h.Ticks = span(pick(), pick()), pick()
		case 3:
			h.Counts = append(h.Counts, api.Count{Tick: pick(), Door: pick(), In: span(pick(), pick()), Out: span(pick(), pick())})
		}
		door.Inside(h)
		door.Leave(h, list(), list())
		door.Admit(h, pick(), list())
		door.Safe(h, pick(), pick(), list())
		if _, e := door.Write(h); e != door.Check(h) {
			t.Fatal(h, e)
		}
		k := api.Kitchen{Meals: list(), Gifts: []api.Gift{{From: pick(), Keeps: pick(), Portions: pick()}, {Keeps: pick(), Portions: pick()}}}
		if _, _, e := door.Feed(k); e != door.CheckKitchen(k) {
			t.Fatal(k, e)
		}
	}
}

// R4: arguments stay as they are, and results share no memory.
func TestMemory(t *testing.T) {
	h, k := house(), kitchen()
	people, closed := []int{0, 50}, []int{2}
	text, _ := door.Write(h)
	for range 2 {
		inside, _ := door.Inside(h)
		ticks, _ := door.Leave(h, people, closed)
		most, _ := door.Admit(h, 4, nil)
		verdict, _ := door.Safe(h, 1, 3, nil)
		s, spoils, _ := door.Feed(k)
		read, _, _ := door.Read(text)
		if !slices.Equal(inside, []api.Span{span(10, 15), span(35, 40), span(30, 35), span(0, 5)}) || ticks != 6 || most != 95 || verdict != api.Open {
			t.Error(inside, ticks, most, verdict)
		}
		if !slices.EqualFunc(s, [][]int{{25, 5, 0}, {0, 0, 20}, {0, 35, 0}}, slices.Equal[[]int]) || spoils != 10 || !same(read, h) {
			t.Error(s, spoils, read)
		}
		clear(inside)
		for meal := range s {
			s[meal] = append(s[meal], 9)
		}
		if !slices.EqualFunc(s, [][]int{{25, 5, 0, 9}, {0, 0, 20, 9}, {0, 35, 0, 9}}, slices.Equal[[]int]) {
			t.Error(s)
		}
		clear(read.Holds)
		clear(read.Doors)
		clear(read.Counts)
	}
	if !same(h, house()) || !slices.Equal(people, []int{0, 50}) || !slices.Equal(closed, []int{2}) {
		t.Error(h, people, closed)
	}
	if !slices.Equal(k.Meals, kitchen().Meals) || !slices.Equal(k.Gifts, kitchen().Gifts) {
		t.Error(k)
	}
}
