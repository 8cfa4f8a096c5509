package swap_test

import (
	"math/rand/v2"
	"slices"
	"testing"

	"shambles/api"
	"shambles/swap"
)

// alike says whether lists of lists are equal.
func alike(a, b [][]int) bool { return slices.EqualFunc(a, b, slices.Equal[[]int]) }

// pointsAt returns at whom a trader points if these are left.
func pointsAt(t api.Trade, left []int, trader int) int {
	return slices.MinFunc(left, func(a, b int) int { return grade(t, trader, t.Owns[a]) - grade(t, trader, t.Owns[b]) })
}

// ringOf returns the traders that follow each other from one on until it comes again, or nothing if it does not.
func ringOf(t api.Trade, left []int, trader int) []int {
	ring := []int{trader}
	for range left {
		next := pointsAt(t, left, ring[len(ring)-1])
		if next == trader {
			return ring
		}
		ring = append(ring, next)
	}
	return nil
}

// wantRounds follows the traders that are left, round by round.
func wantRounds(t api.Trade) [][][]int {
	var rounds [][][]int
	for left := everybody(t); len(left) > 0; {
		var made [][]int
		for _, trader := range left {
			if ring := ringOf(t, left, trader); ring != nil && trader == slices.Min(ring) {
				made = append(made, ring)
			}
		}
		rounds = append(rounds, made)
		left = slices.DeleteFunc(left, func(i int) bool { return slices.Contains(slices.Concat(made...), i) })
	}
	return rounds
}

// P6.1: the examples of Rings and Swap, and rings of all kinds.
func TestRings(t *testing.T) {
	ring := owned(on(0, 0, 1, 2, 3, 4), on(0, 1), on(0, 2), on(0, 0, 3), on(0, 0, 4), on(0, 2, 3))
	turned := owned(on(0, 0, 1, 2, 3), on(0, 2), on(0, 0), on(0, 1), nil)
	chain := owned(on(0, 0, 1, 2, 3), on(0, 1), on(0, 2), on(0, 3), on(0, 3))
	late := owned(on(0, 0, 1, 2, 3), on(0, 3, 1), on(0, 3, 0), on(0, 3), nil)
	for i, c := range []struct {
		x     api.Trade
		rings [][]int
		want  []api.Turn
	}{
		{trade(), [][]int{{0, 1}, {2}, {3}}, on(0, 1, 0, 2, 3)},
		{api.Trade{}, nil, nil},
		{owned(on(0, 5), nil), [][]int{{0}}, on(0, 5)},
		{owned(on(0, 5), on(0, 5)), [][]int{{0}}, on(0, 5)},
		{owned(on(0, 5), on(0, 4, 5)), [][]int{{0}}, on(0, 5)},
		{ring, [][]int{{0, 1, 2}, {3, 4}}, on(0, 1, 2, 0, 4, 3)},
		{turned, [][]int{{0, 2, 1}, {3}}, on(0, 2, 0, 1, 3)},
		{chain, [][]int{{3}, {2}, {1}, {0}}, on(0, 0, 1, 2, 3)},
		{late, [][]int{{3}, {0, 1}, {2}}, on(0, 1, 0, 2, 3)},
		{owned(on(0, 0, 1, 2, 3), on(0, 3), on(0, 2), on(0, 1), on(0, 0)), [][]int{{0, 3}, {1, 2}}, on(0, 3, 2, 1, 0)},
		{owned(on(0, 5, 6), on(0, 5, 6), on(0, 5)), [][]int{{0}, {1}}, on(0, 5, 6)},
		{owned(on(0, 5, 6), on(0, 7, 6), on(0, 7, 5)), [][]int{{0, 1}}, on(0, 6, 5)},
		{owned(on(0, 5, 6), on(0, 6), on(0, 7)), [][]int{{1}, {0}}, on(0, 5, 6)},
		{owned(append(on(2, 1), on(3, 1)...), on(3, 1), on(2, 1)), [][]int{{0, 1}}, append(on(3, 1), on(2, 1)...)},
		{owned(append(on(2, 1), on(3, 1)...), on(1, 3), on(2, 1)), [][]int{{0}, {1}}, append(on(2, 1), on(3, 1)...)},
		{full(), [][]int{{0, 1, 2, 3, 4, 5, 6, 7}}, on(6, 1, 2, 3, 4, 5, 6, 7, 0)},
	} {
		rings, e := swap.Rings(c.x)
		after, f := swap.Swap(c.x)
		if e != api.OK || f != api.OK || !alike(rings, c.rings) || !slices.Equal(after, c.want) {
			t.Error(i, rings, after, e, f)
		}
	}
}

// P6.1: the rings are those that follow from who points at whom, round by round; greater trades too.
func TestRounds(t *testing.T) {
	long, rounds := 0, 0
	for x := range trades(20000, 8) {
		want := wantRounds(x)
		rings, e := swap.Rings(x)
		if e != api.OK || !alike(rings, slices.Concat(want...)) {
			t.Fatal(x, rings, want, e)
		}
		if slices.ContainsFunc(rings, func(ring []int) bool { return len(ring) > 2 }) {
			long++
		}
		if len(want) > 2 {
			rounds++
		}
	}
	if long < 1000 || rounds < 1000 {
		t.Error("few long rings, or rounds:", long, rounds)
	}
}

// P6.5: each trader has a turn that it takes, each turn is had by one trader, and it is the turn of the next one in its ring.
func TestNoWorse(t *testing.T) {
	for x := range trades(5000, 8) {
		after := swapped(t, x)
		if e := swap.CheckHeld(x, after); e != api.OK {
			t.Fatal(x, after, e)
		}
		for trader, turn := range after {
			if !takes(x, trader, turn) {
				t.Fatal(x, after, trader)
			}
		}
		rings, e := swap.Rings(x)
		if all := slices.Sorted(slices.Values(slices.Concat(rings...))); e != api.OK || !slices.Equal(all, everybody(x)) {
			t.Fatal(x, rings, e)
		}
		for _, ring := range rings {
			for i, trader := range ring {
				if after[trader] != x.Owns[ring[(i+1)%len(ring)]] {
					t.Fatal(x, after, ring)
				}
			}
		}
	}
}

// P6.8: no trader gets a turn that it likes more if it tells another list: all orders of some of the turns that are owned are looked at.
func TestTruth(t *testing.T) {
	for x := range trades(400, 4) {
		after := swapped(t, x)
		for trader := range x.Owns {
			told := copied(x)
			for list := range orders(x.Owns) {
				told.Likes[trader] = list
				if other := swapped(t, told); likesMore(x, trader, other[trader], after[trader]) {
					t.Fatal(x, told, after, other, trader)
				}
			}
		}
	}
}

// P6.9: if traders are numbered otherwise, each has the same turn after the swap.
func TestAnyOrder(t *testing.T) {
	r := rand.New(rand.NewPCG(6, 9))
	hold := func(x api.Trade, order []int) {
		var y api.Trade
		var want []api.Turn
		before := swapped(t, x)
		for _, i := range order {
			y.Owns, y.Likes = append(y.Owns, x.Owns[i]), append(y.Likes, x.Likes[i])
			want = append(want, before[i])
		}
		if got := swapped(t, y); !slices.Equal(got, want) {
			t.Fatal(x, order, got, want)
		}
	}
	for order := range ordersOfAll(everybody(trade())) {
		hold(trade(), order)
	}
	for x := range trades(5000, 8) {
		hold(x, r.Perm(len(x.Owns)))
	}
}

// P6.10: if the traders of the rings of the first round leave, all others have the same turns after the swap.
func TestLeft(t *testing.T) {
	others := 0
	for x := range trades(5000, 8) {
		if len(x.Owns) == 0 {
			continue
		}
		after := swapped(t, x)
		gone := slices.Concat(wantRounds(x)[0]...)
		var y api.Trade
		var want []api.Turn
		for i := range x.Owns {
			if !slices.Contains(gone, i) {
				y.Owns, y.Likes = append(y.Owns, x.Owns[i]), append(y.Likes, x.Likes[i])
				want = append(want, after[i])
			}
		}
		if got := swapped(t, y); !slices.Equal(got, want) {
			t.Fatal(x, gone, got, want)
		}
		others += len(want)
	}
	if others < 5000 {
		t.Error("few others:", others)
	}
}
