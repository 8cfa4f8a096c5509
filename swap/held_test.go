package swap_test

import (
	"slices"
	"testing"

	"shambles/api"
	"shambles/swap"
)

// P6.2: the examples of Blocks and Pleases, and which of several groups and rings is told.
func TestHeld(t *testing.T) {
	three := owned(on(0, 0, 1, 2), on(0, 1), on(0, 2), on(0, 0))
	pairs := owned(on(0, 0, 1, 2, 3), on(0, 3, 2), on(0, 2, 3), on(0, 1, 0), on(0, 0, 1))
	asked := owned(on(0, 0, 1, 2), on(0, 1, 2), on(0, 0, 2), on(0, 0, 1))
	turned := owned(on(0, 0, 1, 2, 3), on(0, 2), on(0, 3), on(0, 1), on(0, 0))
	wide := owned(on(0, 0, 1, 2, 3), on(0, 1), on(0, 2), on(0, 0, 3), on(0, 2))
	for i, c := range []struct {
		x             api.Trade
		held          []api.Turn
		blocks, rings []int
	}{
		{trade(), on(0, 1, 0, 2, 3), nil, nil},
		{trade(), on(0, 0, 1, 2, 3), []int{0, 1}, []int{0, 1}},
		{trade(), on(0, 2, 1, 0, 3), []int{0, 1}, nil},
		{trade(), on(0, 1, 2, 0, 3), []int{1}, nil},
		{api.Trade{}, nil, nil, nil},
		{owned(on(0, 5), nil), on(0, 5), nil, nil},
		// A turn that is not taken is liked least of all.
		{trade(), on(0, 3, 0, 1, 2), []int{0}, nil},
		{trade(), on(0, 3, 2, 1, 0), []int{0}, []int{0, 3}},
		{owned(on(0, 0, 1), on(0, 0, 1), on(0, 1, 0)), on(0, 1, 0), []int{0}, []int{0, 1}},
		{owned(on(0, 0, 1), on(0, 0, 1), on(0, 0)), on(0, 0, 1), nil, nil},
		// Of two turns that it does not take, a trader does not wish to have the other one.
		{owned(on(0, 0, 1, 2, 3), nil, nil, nil, nil), on(0, 2, 3, 0, 1), []int{0}, []int{0, 2}},
		{owned(on(0, 0, 1, 2), nil, nil, nil), on(0, 1, 2, 0), []int{0}, []int{0, 2, 1}},
		{three, on(0, 0, 1, 2), []int{0, 1, 2}, []int{0, 1, 2}},
		{three, on(0, 1, 2, 0), nil, nil},
		{three, on(0, 2, 0, 1), []int{0}, []int{0, 1}},
		{pairs, on(0, 0, 1, 2, 3), []int{0, 2}, []int{0, 2}},
		{pairs, on(0, 2, 3, 0, 1), []int{0, 3}, []int{0, 1}},
		{pairs, on(0, 3, 2, 1, 0), nil, nil},
		{asked, on(0, 0, 1, 2), []int{0, 1}, []int{0, 1}},
		{asked, on(0, 2, 1, 0), []int{0, 1}, []int{0, 1}},
		{turned, on(0, 0, 1, 2, 3), []int{0, 1, 2, 3}, []int{0, 2, 1, 3}},
		{wide, on(0, 0, 1, 2, 3), []int{2, 3}, []int{2, 3}},
		{wide, on(0, 0, 1, 3, 2), []int{0, 1, 2}, nil},
		{full(), full().Owns, []int{0, 1}, []int{0, 1}},
	} {
		group, e := swap.Blocks(c.x, c.held)
		ring, f := swap.Pleases(c.x, c.held)
		if e != api.OK || f != api.OK || !slices.Equal(group, c.blocks) || !slices.Equal(ring, c.rings) {
			t.Error(i, group, ring, e, f)
		}
	}
}

// P6.2: the groups and rings are the first ones of all, whatever is held.
func TestFirst(t *testing.T) {
	groups, rings := map[int]int{}, map[int]int{}
	hold := func(x api.Trade, held []api.Turn) {
		group, e := swap.Blocks(x, held)
		ring, f := swap.Pleases(x, held)
		if e != api.OK || f != api.OK || !slices.Equal(group, wantBlocks(x, held)) || !slices.Equal(ring, wantPleases(x, held)) {
			t.Fatal(x, held, group, ring, e, f)
		}
		groups[len(group)]++
		rings[len(ring)]++
	}
	for x := range trades(200, 5) {
		for held := range ordersOfAll(x.Owns) {
			hold(x, held)
		}
	}
	for x := range trades(400, 6) {
		hold(x, x.Owns)
		hold(x, swapped(t, x))
	}
	if groups[0] < 100 || groups[1] < 100 || groups[2] < 100 || groups[3] < 20 || rings[0] < 100 || rings[2] < 100 || rings[3] < 100 || rings[4] < 10 {
		t.Error("few groups or rings of a kind:", groups, rings)
	}
}

// P6.6: the swap is blocked by no group, and any other held turns are blocked by one.
func TestOneOnly(t *testing.T) {
	for x := range trades(300, 5) {
		after, free := swapped(t, x), 0
		for held := range ordersOfAll(x.Owns) {
			group, e := swap.Blocks(x, held)
			if e != api.OK || (len(group) == 0) != slices.Equal(held, after) {
				t.Fatal(x, held, after, group, e)
			}
			if len(group) == 0 {
				free++
				continue
			}
			if !isBlocking(x, held, group) {
				t.Fatal(x, held, group)
			}
		}
		if free != 1 || wantBlocks(x, after) != nil {
			t.Fatal(x, after, free)
		}
	}
	for x := range trades(200, 8) {
		if group, e := swap.Blocks(x, swapped(t, x)); e != api.OK || len(group) > 0 {
			t.Fatal(x, group, e)
		}
	}
}

// P6.7: after the swap no ring pleases; what Pleases names is one, and with it each of its traders, and nobody else, gets another turn.
func TestPleased(t *testing.T) {
	for x := range trades(1000, 8) {
		if ring, e := swap.Pleases(x, swapped(t, x)); e != api.OK || len(ring) > 0 {
			t.Fatal(x, ring, e)
		}
	}
	for x := range trades(200, 5) {
		if ring := wantPleases(x, swapped(t, x)); ring != nil {
			t.Fatal(x, ring)
		}
		for held := range ordersOfAll(x.Owns) {
			ring, e := swap.Pleases(x, held)
			if e != api.OK || len(ring) > 0 && !isPleasing(x, held, ring) {
				t.Fatal(x, held, ring, e)
			}
			after := slices.Clone(held)
			for i, trader := range ring {
				after[trader] = held[ring[(i+1)%len(ring)]]
			}
			if e := swap.CheckHeld(x, after); e != api.OK {
				t.Fatal(x, held, ring, e)
			}
			for trader := range held {
				if (after[trader] != held[trader]) != slices.Contains(ring, trader) {
					t.Fatal(x, held, ring, trader)
				}
			}
		}
	}
}
