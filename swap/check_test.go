package swap_test

import (
	"math"
	"math/rand/v2"
	"slices"
	"testing"

	"shambles/api"
	"shambles/stall"
	"shambles/swap"
)

type checkCase struct {
	name   string
	change func(t *api.Trade)
	want   api.Errno
}

// own is the change of the turn that a trader owns.
func own(trader, stall, day int) func(t *api.Trade) {
	return func(t *api.Trade) { t.Owns[trader] = api.Turn{Stall: stall, Day: day} }
}

// like is the change of the list of a trader.
func like(trader int, list ...api.Turn) func(t *api.Trade) {
	return func(t *api.Trade) { t.Likes[trader] = list }
}

// both makes two changes.
func both(a, b func(t *api.Trade)) func(t *api.Trade) {
	return func(t *api.Trade) { a(t); b(t) }
}

// all is the change to another trade.
func all(x api.Trade) func(t *api.Trade) { return func(t *api.Trade) { *t = x } }

// P6.1: each error of a trade, from both sides of each bound.
func TestCheck(t *testing.T) {
	run(t, []checkCase{
		{"T", func(t *api.Trade) {}, api.OK},
		{"nobody", all(api.Trade{}), api.OK},
		{"empty lists", all(api.Trade{Owns: []api.Turn{}, Likes: [][]api.Turn{}}), api.OK},
		{"most of all", all(full()), api.OK},
		{"9 traders", all(api.Trade{Owns: long(9), Likes: make([][]api.Turn, 9)}), api.ErrFull},
		{"a list less", func(t *api.Trade) { t.Likes = t.Likes[:3] }, api.ErrForm},
		{"a list more", func(t *api.Trade) { t.Likes = append(t.Likes, nil) }, api.ErrForm},
		{"lists alone", func(t *api.Trade) { t.Owns = nil }, api.ErrForm},
		{"no lists", func(t *api.Trade) { t.Likes = nil }, api.ErrForm},
		{"owned stall 7", own(2, 7, 0), api.OK},
		{"owned stall 8", own(2, 8, 0), api.ErrRange},
		{"owned stall below 0", own(2, -1, 0), api.ErrRange},
		{"owned stall far off", own(2, math.MaxInt, 0), api.ErrRange},
		{"owned day 6", own(3, 3, 6), api.OK},
		{"owned day 7", own(3, 3, 7), api.ErrRange},
		{"owned day below 0", own(3, 3, -1), api.ErrRange},
		{"owned day far off", own(3, 3, math.MinInt), api.ErrRange},
		{"stall and day the other way round", own(3, 6, 7), api.ErrRange},
		{"owned twice", own(1, 0, 0), api.ErrExists},
		{"owned by the last one, too", own(3, 0, 0), api.ErrExists},
		{"same stall, other day", own(1, 0, 1), api.OK},
		{"other stall, same day", own(1, 5, 0), api.OK},
		{"no likes", like(0), api.OK},
		{"16 likes", like(0, long(16)...), api.OK},
		{"17 likes", like(0, long(17)...), api.ErrFull},
		{"17 likes of the last one", like(3, long(17)...), api.ErrFull},
		{"likes its own alone", like(1, on(0, 1)...), api.OK},
		{"likes what nobody owns", like(1, on(5, 7)...), api.OK},
		{"liked stall 7, day 6", like(1, on(6, 7)...), api.OK},
		{"liked stall 8", like(1, on(6, 8)...), api.ErrRange},
		{"liked stall below 0", like(1, on(6, -1)...), api.ErrRange},
		{"liked day 7", like(1, on(7, 0)...), api.ErrRange},
		{"liked day below 0", like(1, on(-1, 0)...), api.ErrRange},
		{"liked twice", like(3, on(0, 2, 2)...), api.ErrExists},
		{"liked twice, not side by side", like(3, on(0, 2, 1, 2)...), api.ErrExists},
		{"own twice", like(3, on(0, 3, 3)...), api.ErrExists},
		{"same stall liked on two days", like(3, slices.Concat(on(0, 2), on(1, 2))...), api.OK},
		{"the same list twice", like(3, on(0, 1, 2)...), api.OK},
	})
}

// P6.1, R1: of two errors the one is told that the chapter names first.
func TestCheckOrder(t *testing.T) {
	run(t, []checkCase{
		{"number of turns, then lists", all(api.Trade{Owns: long(9)}), api.ErrFull},
		{"number of turns, then turns", all(api.Trade{Owns: make([]api.Turn, 9), Likes: make([][]api.Turn, 9)}), api.ErrFull},
		{"lists, then turns", both(own(0, 8, 0), func(t *api.Trade) { t.Likes = t.Likes[:3] }), api.ErrForm},
		{"more lists, then likes", both(like(0, long(17)...), func(t *api.Trade) { t.Likes = append(t.Likes, nil) }), api.ErrForm},
		{"range, then twice", both(own(1, 9, 0), own(2, 9, 0)), api.ErrRange},
		{"trader by trader", both(like(0, on(0, 2, 2)...), own(1, 8, 0)), api.ErrExists},
		{"likes before the next turn", both(like(0, on(7, 0)...), own(1, 0, 0)), api.ErrRange},
		{"turn, then likes", both(own(1, 0, 0), like(1, on(7, 0)...)), api.ErrExists},
		{"turn, then number of likes", both(own(1, 8, 0), like(1, long(17)...)), api.ErrRange},
		{"number of likes first", like(1, make([]api.Turn, 17)...), api.ErrFull},
		{"number of likes, then range", like(1, append(on(-1, 0), long(16)...)...), api.ErrFull},
		{"like by like", like(1, on(0, 2, 2, 8)...), api.ErrExists},
		{"the first like first", like(1, on(0, 8, 2, 2)...), api.ErrRange},
		{"range of the same one first", like(1, on(0, 8, 8)...), api.ErrRange},
		{"likes of the first one first", both(like(2, on(0, 8)...), like(3, long(17)...)), api.ErrRange},
	})
}

// run holds Check, and all that return its error, against what is wanted.
func run(t *testing.T, cases []checkCase) {
	t.Helper()
	for _, c := range cases {
		x := changed(c.change)
		if e := swap.Check(x); e != c.want {
			t.Errorf("%s: %v, want %v", c.name, e, c.want)
		}
		rings, a := swap.Rings(x)
		after, b := swap.Swap(x)
		text, d := swap.Write(x)
		// Held turns of the wrong number have an error that comes after that of the trade.
		due := c.want
		if due == api.OK {
			due = api.ErrForm
		}
		odd := make([]api.Turn, len(x.Owns)+1)
		group, f := swap.Blocks(x, odd)
		ring, g := swap.Pleases(x, odd)
		if h := swap.CheckHeld(x, odd); a != c.want || b != c.want || d != c.want || f != due || g != due || h != due {
			t.Errorf("%s: %v %v %v %v %v %v, want %v", c.name, a, b, d, f, g, h, c.want)
		}
		if group != nil || ring != nil || c.want != api.OK && (rings != nil || after != nil || text != "") {
			t.Errorf("%s: results beside an error", c.name)
		}
	}
}

// P6.2: each error of held turns, and the one that comes first.
func TestCheckHeld(t *testing.T) {
	week := owned(slices.Concat(on(2, 1), on(3, 1)), nil, nil)
	for i, c := range []struct {
		x    api.Trade
		held []api.Turn
		want api.Errno
	}{
		{trade(), on(0, 1, 0, 2, 3), api.OK},
		{trade(), on(0, 3, 2, 1, 0), api.OK},
		{api.Trade{}, nil, api.OK},
		{api.Trade{}, []api.Turn{}, api.OK},
		{api.Trade{}, on(0, 0), api.ErrForm},
		{trade(), nil, api.ErrForm},
		{trade(), on(0, 1, 0, 2), api.ErrForm},
		{trade(), on(0, 1, 0, 2, 3, 4), api.ErrForm},
		{trade(), on(0, 9, 9, 9), api.ErrForm},
		{trade(), on(0, 1, 0, 2, 4), api.ErrMissing},
		{trade(), on(0, 1, 0, 2, -1), api.ErrMissing},
		{trade(), on(1, 1, 0, 2, 3), api.ErrMissing},
		{trade(), on(0, math.MaxInt, 0, 2, 3), api.ErrMissing},
		{trade(), on(0, 1, 1, 2, 3), api.ErrExists},
		{trade(), on(0, 1, 0, 2, 1), api.ErrExists},
		{trade(), on(0, 4, 4, 2, 3), api.ErrMissing},
		{trade(), on(0, 1, 1, 2, 4), api.ErrExists},
		{trade(), on(0, 4, 1, 1, 3), api.ErrMissing},
		{week, slices.Concat(on(3, 1), on(2, 1)), api.OK},
		{week, on(2, 1, 1), api.ErrExists},
		{week, on(2, 1, 3), api.ErrMissing},
	} {
		group, f := swap.Blocks(c.x, c.held)
		ring, g := swap.Pleases(c.x, c.held)
		if e := swap.CheckHeld(c.x, c.held); e != c.want || f != e || g != e {
			t.Error(i, e, f, g)
		}
		if c.want != api.OK && (group != nil || ring != nil) {
			t.Error(i, "results beside an error")
		}
	}
}

// P1: no argument makes a function panic.
func TestAnyArguments(t *testing.T) {
	r := rand.New(rand.NewPCG(1, 6))
	odd := []int{math.MinInt, -1, 0, 1, 2, 3, 4, 6, 7, 8, math.MaxInt}
	pick := func() int { return odd[r.IntN(len(odd))] }
	turns := func() []api.Turn {
		var list []api.Turn
		for range r.IntN(6) {
			list = append(list, api.Turn{Stall: pick(), Day: pick()})
		}
		return list
	}
	for range 20000 {
		x := pickTrade(r, 6)
		held := swapped(t, x)
		if r.IntN(3) == 0 {
			x.Owns = turns()
		}
		if len(x.Likes) > 0 && r.IntN(3) == 0 {
			x.Likes[0] = turns()
		}
		if r.IntN(3) == 0 {
			held = turns()
		}
		valid := swap.Check(x) == api.OK
		swap.Blocks(x, held)
		swap.Pleases(x, held)
		swap.Rings(x)
		swap.Write(x)
		if _, e := swap.Swap(x); valid != (e == api.OK) {
			t.Fatal(x, e)
		}
		l := api.Letting{Stalls: []api.Stall{{Rule: pick(), Heir: pick()}}, Applicants: []api.Applicant{{Wishes: []int{pick()}, Bids: []int{pick()}}}}
		swap.From(l, []int{pick()}, pick())
	}
}

// R4: arguments stay as they are, and results share no memory.
func TestMemory(t *testing.T) {
	x, held, l, holders := trade(), on(0, 2, 1, 0, 3), letting(), []int{3, 1, 2}
	for range 2 {
		rings, _ := swap.Rings(x)
		after, _ := swap.Swap(x)
		group, _ := swap.Blocks(x, held)
		ring, _ := swap.Pleases(x, on(0, 0, 1, 2, 3))
		made, list, _ := swap.From(l, holders, 4)
		if !alike(rings, [][]int{{0, 1}, {2}, {3}}) || !slices.Equal(after, on(0, 1, 0, 2, 3)) || !slices.Equal(group, []int{0, 1}) || !slices.Equal(ring, []int{0, 1}) {
			t.Fatal(rings, after, group, ring)
		}
		if !same(made, fromL()) || !slices.Equal(list, []int{1, 2, 3}) {
			t.Fatal(made, list)
		}
		for i := range rings {
			rings[i] = append(rings[i], 99)
		}
		if !alike(rings, [][]int{{0, 1, 99}, {2, 99}, {3, 99}}) {
			t.Fatal(rings)
		}
		for i := range made.Likes {
			made.Likes[i] = append(made.Likes[i], api.Turn{})
		}
		if !slices.Equal(made.Likes[0], append(on(4, 1, 2), api.Turn{})) || !slices.Equal(made.Owns, on(4, 1, 2, 0)) {
			t.Fatal(made)
		}
		clear(after)
		clear(group)
		clear(ring)
		clear(made.Owns)
		clear(list)
	}
	if !same(x, trade()) || !slices.Equal(held, on(0, 2, 1, 0, 3)) || !slices.Equal(holders, []int{3, 1, 2}) || stall.CheckHolders(l, holders) != api.OK {
		t.Error(x, held, l, holders)
	}
	read, _, _ := swap.Read(ledger)
	read.Likes[0] = append(read.Likes[0], api.Turn{})
	if clear(read.Owns); !slices.Equal(read.Likes[1], on(0, 0)) {
		t.Error(read)
	}
}
