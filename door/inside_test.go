package door_test

import (
	"math/rand/v2"
	"slices"
	"testing"

	"shambles/api"
	"shambles/door"
)

// going is a count of the people who go in and out.
func going(tick, at int, in, out api.Span) api.Count {
	return api.Count{Tick: tick, Door: at, In: in, Out: out}
}

// P9.1: the examples of Inside, and its edges.
func TestInside(t *testing.T) {
	last := func(low, high int) api.House {
		return changed(func(h *api.House) { h.Counts[2].Out = span(low, high) })
	}
	first := func(ticks int, first api.Span, counts ...api.Count) api.House {
		return changed(func(h *api.House) { h.Ticks, h.First, h.Counts = ticks, first, counts })
	}
	for i, c := range []struct {
		h    api.House
		want []api.Span
		e    api.Errno
	}{
		{house(), []api.Span{span(10, 15), span(35, 40), span(30, 35), span(0, 5)}, api.OK},
		{last(50, 50), nil, api.ErrClash},
		// At most 35 are there to go out, whatever is counted.
		{last(30, 50), []api.Span{span(10, 15), span(35, 40), span(30, 35), span(0, 5)}, api.OK},
		{last(35, 50), []api.Span{one(15), one(40), one(35), one(0)}, api.OK},
		{last(36, 50), nil, api.ErrClash},
		{last(0, 0), []api.Span{span(10, 15), span(25, 40), span(10, 35), span(10, 35)}, api.OK},
		// Without counts nobody goes.
		{first(3, span(10, 15)), slices.Repeat([]api.Span{span(10, 15)}, 4), api.OK},
		{first(0, span(0, 10000)), []api.Span{span(0, 10000)}, api.OK},
		{first(12, one(0)), make([]api.Span, 13), api.OK},
		{api.House{Holds: []int{0}, First: one(3), Ticks: 1}, []api.Span{one(3), one(3)}, api.OK},
		// What goes out by one door may have come in by another one in the same tick.
		{first(1, one(0), going(0, 0, one(7), one(0)), going(0, 2, one(0), one(7))), []api.Span{one(0), one(0)}, api.OK},
		{first(1, one(0), going(0, 2, one(7), one(7))), []api.Span{one(0), one(0)}, api.OK},
		{first(2, one(0), going(0, 2, one(0), one(7)), going(1, 0, one(7), one(0))), nil, api.ErrClash},
		{first(2, one(0), going(0, 0, one(7), one(0)), going(1, 2, one(0), one(7))), []api.Span{one(0), one(7), one(0)}, api.OK},
		// Counts of a door do not come in the order of ticks.
		{first(2, one(0), going(1, 2, one(0), one(7)), going(0, 0, one(7), one(0))), []api.Span{one(0), one(7), one(0)}, api.OK},
		// What is known late says something of what was before.
		{first(3, span(0, 9), going(0, 0, span(0, 2), span(0, 2)), going(2, 0, one(0), span(9, 99))), []api.Span{span(7, 9), span(9, 11), span(9, 11), span(0, 2)}, api.OK},
		{first(1, span(0, 9), going(0, 0, one(0), one(10))), nil, api.ErrClash},
		{first(1, span(0, 9), going(0, 0, one(0), one(9))), []api.Span{one(9), one(0)}, api.OK},
		{full(), slices.Repeat([]api.Span{one(10000)}, 13), api.OK},
	} {
		if l, e := door.Inside(c.h); e != c.e || !slices.Equal(l, c.want) {
			t.Error(i, l, e)
		}
	}
}

// P9.1, P9.6: just the numbers that are said may be inside: all numbers of small houses are gone through.
func TestTrue(t *testing.T) {
	clash, open := 0, 0
	for h := range houses(3000, small) {
		met := make([]map[int]bool, h.Ticks+1)
		for tick := range met {
			met[tick] = map[int]bool{}
		}
		for people := range truths(h) {
			for tick, n := range people {
				met[tick][n] = true
			}
		}
		l, e := door.Inside(h)
		if len(met[0]) == 0 {
			clash++
			if e != api.ErrClash || l != nil {
				t.Fatal(h, l, e)
			}
			continue
		}
		if e != api.OK || len(l) != len(met) {
			t.Fatal(h, l, e)
		}
		for tick, s := range l {
			for n := s.Lo; n <= s.Hi; n++ {
				if !met[tick][n] {
					t.Fatal(h, l, tick, n)
				}
			}
			if len(met[tick]) != s.Hi-s.Lo+1 {
				t.Fatal(h, l, tick, met[tick])
			}
			if s.Lo < s.Hi {
				open++
			}
		}
	}
	if clash < 200 || open < 2000 {
		t.Error("few houses that cannot be, or few spans of more than one number:", clash, open)
	}
}

// far is more than two numbers of people are apart.
const far = 1 << 40

// apart returns how much greater one number may be than another one, at most, of the people inside at first and after each tick, and of 0 behind them.
func apart(h api.House) [][]int {
	many := h.Ticks + 2
	none := many - 1
	most := make([][]int, many)
	for i := range most {
		most[i] = slices.Repeat([]int{far}, many)
		most[i][i] = 0
	}
	// None of them is below 0.
	clear(most[none])
	most[0][none], most[none][0] = h.First.Hi, -h.First.Lo
	for tick := range h.Ticks {
		most[tick+1][tick], most[tick][tick+1] = 0, 0
	}
	for _, c := range h.Counts {
		most[c.Tick+1][c.Tick] += c.In.Hi - c.Out.Lo
		most[c.Tick][c.Tick+1] += c.Out.Hi - c.In.Lo
	}
	for by := range most {
		for i := range most {
			for j := range most {
				most[i][j] = min(most[i][j], most[i][by]+most[by][j])
			}
		}
	}
	return most
}

// P9.1, P9.6: the numbers of great houses, found in another way.
func TestGreatHouses(t *testing.T) {
	clash, sharper := 0, 0
	for h := range houses(6000, great) {
		most := apart(h)
		none := h.Ticks + 1
		l, e := door.Inside(h)
		if most[0][0] < 0 {
			clash++
			if e != api.ErrClash || l != nil {
				t.Fatal(h, l, e)
			}
			continue
		}
		if e != api.OK || len(l) != none {
			t.Fatal(h, l, e)
		}
		for tick, s := range l {
			if s != span(-most[none][tick], most[tick][none]) {
				t.Fatal(h, tick, s, -most[none][tick], most[tick][none])
			}
		}
		if l[0] != h.First {
			sharper++
		}
	}
	if clash < 300 || sharper < 100 {
		t.Error("few houses that cannot be, or few of which counts say how many people were there at first:", clash, sharper)
	}
}

// narrower returns a span within another one.
func narrower(r *rand.Rand, s api.Span) api.Span {
	low := s.Lo + r.IntN(s.Hi-s.Lo+1)
	return span(low, low+r.IntN(s.Hi-low+1))
}

// P9.7: with narrower counts no span is wider, as long as the house may be.
func TestCounted(t *testing.T) {
	r := rand.New(rand.NewPCG(9, 7))
	less, out := 0, 0
	hold := func(h api.House) {
		t.Helper()
		wide, e := door.Inside(h)
		g := copied(h)
		for i := range g.Counts {
			if c := &g.Counts[i]; r.IntN(2) == 0 {
				c.In, c.Out = narrower(r, c.In), narrower(r, c.Out)
			}
		}
		if r.IntN(2) == 0 {
			g.First = narrower(r, g.First)
		}
		narrow, f := door.Inside(g)
		if f != api.OK {
			out++
			return
		}
		if e != api.OK {
			t.Fatal(h, g, e)
		}
		for tick, s := range narrow {
			if !within(s, wide[tick]) {
				t.Fatal(h, g, tick, wide, narrow)
			}
			if s != wide[tick] {
				less++
			}
		}
	}
	for h := range houses(2000, small) {
		hold(h)
	}
	for h := range houses(2000, great) {
		hold(h)
	}
	if less < 2000 || out < 200 {
		t.Error("few spans that are narrower, or few houses that cannot be:", less, out)
	}
}

// P9.3: the examples of Safe, and its edges.
func TestSafe(t *testing.T) {
	clash := changed(func(h *api.House) { h.Counts[2].Out = span(50, 50) })
	known := func(people int) api.House {
		return changed(func(h *api.House) { h.First, h.Counts = one(people), nil })
	}
	for i, c := range []struct {
		h         api.House
		at, ticks int
		closed    []int
		want      int
		e         api.Errno
	}{
		{house(), 1, 3, nil, api.Open, api.OK},
		{house(), 2, 3, nil, api.Sure, api.OK},
		{house(), 1, 2, nil, api.Never, api.OK},
		{house(), 0, 2, nil, api.Sure, api.OK},
		{house(), 3, 1, nil, api.Sure, api.OK},
		{house(), 3, 0, nil, api.Open, api.OK},
		{house(), 0, 0, nil, api.Never, api.OK},
		{house(), 1, 3, []int{1}, api.Never, api.OK},
		{house(), 3, 1, []int{0, 1, 2}, api.Open, api.OK},
		{known(35), 3, 3, nil, api.Sure, api.OK},
		{known(36), 3, 3, nil, api.Never, api.OK},
		{known(150), 0, 12, nil, api.Sure, api.OK},
		// There may be more people inside than all halls hold.
		{known(151), 0, 12, nil, api.Never, api.OK},
		{known(0), 0, 0, nil, api.Sure, api.OK},
		{clash, 0, 3, nil, 0, api.ErrClash},
	} {
		if v, e := door.Safe(c.h, c.at, c.ticks, c.closed); v != c.want || e != c.e {
			t.Error(i, v, e)
		}
	}
}

// P9.3, P9.11: what Safe says is so of each number of people that may be inside.
func TestSafeInTruth(t *testing.T) {
	verdicts := map[int]int{}
	r := rand.New(rand.NewPCG(9, 11))
	for h := range houses(1500, small) {
		ticks := r.IntN(4)
		most := admitted(t, h, ticks, nil)
		can, all := make([]int, h.Ticks+1), 0
		for people := range truths(h) {
			all++
			for tick, n := range people {
				if n <= most {
					can[tick]++
				}
			}
		}
		for at, fit := range can {
			v, e := door.Safe(h, at, ticks, nil)
			want := api.Open
			switch {
			case all == 0:
				want = 0
			case fit == all:
				want = api.Sure
			case fit == 0:
				want = api.Never
			}
			if v != want || (e == api.OK) != (all > 0) {
				t.Fatal(h, at, ticks, most, v, e, want)
			}
			verdicts[v]++
		}
	}
	if verdicts[api.Sure] < 100 || verdicts[api.Never] < 100 || verdicts[api.Open] < 100 || verdicts[0] < 100 {
		t.Error("few verdicts of a kind:", verdicts)
	}
}
