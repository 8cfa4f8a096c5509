package cold_test

import (
	"iter"
	"math/rand/v2"
	"slices"
	"testing"

	"shambles/api"
	"shambles/cold"
)

// P4.4: the examples of Fill, and its edges.
func TestFill(t *testing.T) {
	empty := changed(func(c *api.Cellar) { c.Boxes[0].Ice, c.Fillings = span(0, 0), nil })
	small := changed(func(c *api.Cellar) { c.Boxes[0] = api.Box{Room: 30, Melt: span(10, 10), Warm: span(50, 50)} })
	unsure := changed(func(c *api.Cellar) { c.Boxes[0].Ice, c.Boxes[0].Melt, c.Fillings = span(0, 600), span(0, 250), nil })
	second := changed(func(c *api.Cellar) { c.Boxes = append(c.Boxes, api.Box{Room: 30, Melt: span(10, 10)}) })
	for i, c := range []struct {
		c            api.Cellar
		box          int
		visits       []int
		grams, until int
		want         []int
		e            api.Errno
	}{
		{cellar(), 0, []int{2, 3}, 100, 5, []int{1, 1}, api.OK},
		{cellar(), 0, []int{2, 3}, 100, 7, []int{1, 5}, api.OK},
		{cellar(), 0, []int{3}, 100, 5, nil, api.ErrMissing},
		{cellar(), 0, []int{2, 3}, 100, 8, []int{5, 5}, api.OK},
		{cellar(), 0, []int{2, 3}, 100, 9, nil, api.ErrMissing},
		{cellar(), 0, []int{3}, 100, 2, []int{0}, api.OK},
		{cellar(), 0, []int{1, 100, 239}, 100, 2, []int{0, 0, 0}, api.OK},
		{cellar(), 0, []int{1}, 100, 4, []int{3}, api.OK},
		{cellar(), 0, []int{0, 1}, 300, 4, []int{0, 1}, api.OK},
		{cellar(), 0, []int{0}, 1, 3, []int{1}, api.OK},
		{cellar(), 0, []int{0}, 1, 4, nil, api.ErrMissing},
		{empty, 0, []int{0}, 250, 1, []int{1}, api.OK},
		{empty, 0, []int{0}, 250, 2, []int{2}, api.OK},
		{empty, 0, []int{0}, 251, 2, []int{1}, api.OK},
		{empty, 0, []int{0}, 250, 4, []int{4}, api.OK},
		{empty, 0, []int{0}, 200, 4, []int{4}, api.OK},
		{empty, 0, []int{0}, 187, 4, []int{5}, api.OK},
		{empty, 0, []int{0}, 150, 4, nil, api.ErrMissing},
		{empty, 0, []int{0}, 250, 5, nil, api.ErrMissing},
		{empty, 0, []int{1}, 250, 1, nil, api.ErrMissing},
		{unsure, 0, []int{0}, 250, 2, []int{2}, api.OK},
		{small, 0, []int{0, 3}, 20, 6, []int{2, 1}, api.OK},
		{small, 0, []int{0, 2}, 20, 4, []int{1, 1}, api.OK},
		{small, 0, []int{0, 1, 2, 3, 4, 5}, 10, 7, []int{1, 1, 1, 1, 0, 0}, api.OK},
		{small, 0, []int{0, 1, 2, 3, 4, 5}, 10, 8, []int{1, 1, 1, 1, 0, 1}, api.OK},
		{small, 0, []int{0, 1, 2, 3, 4, 5}, 10, 9, nil, api.ErrMissing},
		{second, 1, []int{0, 2}, 100000, 5, []int{1, 1}, api.OK},
		{second, 1, []int{0, 1}, 100000, 5, nil, api.ErrMissing},
	} {
		if scoops, e := cold.Fill(c.c, c.box, c.visits, c.grams, c.until); !slices.Equal(scoops, c.want) || e != c.e {
			t.Error(i, scoops, e)
		}
	}
}

// P1, P4.10: as many visits and hours as there may be are not too much for Fill.
func TestFillMost(t *testing.T) {
	c := changed(func(c *api.Cellar) {
		c.Boxes[0] = api.Box{Room: 100000, Melt: span(10, 10), Warm: span(50, 50)}
		c.Fillings = nil
	})
	for hour := range 20 {
		c.Fillings = append(c.Fillings, api.Filling{Hour: hour, Grams: 10})
	}
	visits := []int{0, 1, 2, 3, 4, 5}
	for _, grams := range []int{1, 73, 74, 90, 2200, 100000} {
		scoops, e := cold.Fill(c, 0, visits, grams, api.MaxHours)
		want := wantFill(c, 0, visits, grams, api.MaxHours)
		if !slices.Equal(scoops, want) || (e == api.OK) != (want != nil) {
			t.Error(grams, scoops, e, want)
		}
	}
}

// allScoops hands out all scoops for so many visits, in lexicographic order.
func allScoops(visits int) iter.Seq[[]int] {
	return func(yield func([]int) bool) {
		scoops := make([]int, visits)
		for {
			if !yield(scoops) {
				return
			}
			last := len(scoops) - 1
			for ; last >= 0 && scoops[last] == 5; last-- {
				scoops[last] = 0
			}
			if last < 0 {
				return
			}
			scoops[last]++
		}
	}
}

// lasts says whether a box is cold up to an hour in the worst truth, with scoops.
func lasts(c api.Cellar, box int, visits, scoops []int, grams, until int) bool {
	b := c.Boxes[box]
	ice := b.Ice.Lo
	for hour := range until {
		for _, f := range c.Fillings {
			if f.Box == box && f.Hour == hour {
				ice = min(ice+f.Grams, b.Room)
			}
		}
		if visit := slices.Index(visits, hour); visit >= 0 {
			ice = min(ice+scoops[visit]*grams, b.Room)
		}
		if ice == 0 {
			return false
		}
		ice = max(0, ice-b.Melt.Hi)
	}
	return true
}

// wantFill looks at all scoops.
func wantFill(c api.Cellar, box int, visits []int, grams, until int) []int {
	var chosen []int
	for scoops := range allScoops(len(visits)) {
		if (chosen == nil || total(scoops) < total(chosen)) && lasts(c, box, visits, scoops, grams, until) {
			chosen = slices.Clone(scoops)
		}
	}
	return chosen
}

func total(numbers []int) int {
	all := 0
	for _, n := range numbers {
		all += n
	}
	return all
}

// pickVisits returns visits before an hour.
func pickVisits(r *rand.Rand, most, before int) []int {
	visits := r.Perm(before)[:1+r.IntN(most)]
	slices.Sort(visits)
	return visits
}

// P4.10: with the scoops of Fill the box is surely cold as long as asked; no fewer scoops do it, nor as many that come before: all numbers are looked at; a longer time does not need fewer.
func TestFewest(t *testing.T) {
	r := rand.New(rand.NewPCG(4, 10))
	found, none := 0, 0
	for c := range smallCellars(1500, 12) {
		if len(c.Boxes) == 0 {
			continue
		}
		box, visits, grams := r.IntN(len(c.Boxes)), pickVisits(r, 4, 12), 1+r.IntN(4)
		before, possible := 0, true
		for until := 1; until <= 14; until += 1 + r.IntN(3) {
			scoops, e := cold.Fill(c, box, visits, grams, until)
			want := wantFill(c, box, visits, grams, until)
			if !slices.Equal(scoops, want) || (e == api.OK) != (want != nil) || e != api.OK && e != api.ErrMissing {
				t.Fatal(c, box, visits, grams, until, scoops, e, want)
			}
			if e == api.OK && (!possible || total(scoops) < before) {
				t.Fatal(c, box, visits, grams, until, scoops, before)
			}
			before, possible = total(scoops), e == api.OK
			if possible && before > 0 {
				found++
			} else if !possible {
				none++
			}
		}
	}
	if found < 500 || none < 500 {
		t.Error("few scoops, or few that are missing:", found, none)
	}
}

// P4.10: if scoops are put in as fillings, the box is surely cold in each hour that is asked.
func TestScoopsAsFillings(t *testing.T) {
	r := rand.New(rand.NewPCG(10, 4))
	looked := 0
	for c := range smallCellars(4000, 6) {
		if len(c.Boxes) == 0 {
			continue
		}
		visits, grams, until := pickVisits(r, 2, 6), 1+r.IntN(4), 1+r.IntN(6)
		scoops, e := cold.Fill(c, 0, visits, grams, until)
		if e != api.OK {
			continue
		}
		iced := copied(c)
		for i, hour := range visits {
			iced.Fillings = append(iced.Fillings, slices.Repeat([]api.Filling{{Hour: hour, Grams: grams}}, scoops[i])...)
		}
		slices.SortStableFunc(iced.Fillings, func(f, g api.Filling) int { return f.Hour - g.Hour })
		for hour := range until {
			if verdict, e := cold.Cold(iced, 0, hour); verdict != api.Sure || e != api.OK {
				t.Fatal(c, visits, grams, until, scoops, hour, verdict, e)
			}
		}
		if total(scoops) > 0 {
			looked++
		}
	}
	if looked < 200 {
		t.Error("few scoops:", looked)
	}
}
