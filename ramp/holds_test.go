package ramp_test

import (
	"iter"
	"math/rand/v2"
	"slices"
	"testing"

	"shambles/api"
	"shambles/ramp"
)

// P7.1: the examples of Holds, and each rule from both sides of its bound.
func TestHolds(t *testing.T) {
	const s, n, o = api.Sure, api.Never, api.Open
	late := changed(func(y *api.Yard) { y.Carts[0].Until = 60 })
	swept := changed(func(y *api.Yard) { y.Sweep = 0 })
	exact := changed(func(y *api.Yard) { y.Carts[0].Takes = span(20, 20) })
	for i, c := range []struct {
		y    api.Yard
		plan []api.Slot
		want int
	}{
		{yard(), on(0, 0, 1, 10, 0, 25), s},
		// The sweep, behind 15 to 20 minutes.
		{yard(), on(0, 0, 1, 10, 0, 24), o},
		{yard(), on(0, 0, 1, 10, 0, 20), o},
		{yard(), on(0, 0, 1, 10, 0, 19), n},
		{swept, on(0, 0, 1, 10, 0, 20), s},
		{swept, on(0, 0, 1, 10, 0, 19), o},
		{swept, on(0, 0, 1, 10, 0, 15), o},
		{swept, on(0, 0, 1, 10, 0, 14), n},
		{exact, on(0, 0, 1, 10, 0, 25), s},
		{exact, on(0, 0, 1, 10, 0, 24), n},
		// Until when a cart has to be away, and when its ramp shuts.
		{yard(), on(0, 0, 1, 10, 0, 30), s},
		{yard(), on(0, 0, 1, 10, 0, 31), o},
		{yard(), on(0, 0, 1, 10, 0, 40), o},
		{yard(), on(0, 0, 1, 10, 0, 41), n},
		{yard(), on(0, 0, 1, 15, 0, 25), s},
		{yard(), on(0, 0, 1, 16, 0, 25), o},
		{yard(), on(0, 0, 1, 20, 0, 25), o},
		{yard(), on(0, 0, 1, 21, 0, 25), n},
		// From when a cart may come, and its ramp is open.
		{yard(), on(0, 0, 1, 9, 0, 25), n},
		{late, on(0, 40, 1, 10, 0, 5), s},
		{late, on(0, 40, 1, 10, 0, 4), n},
		{late, on(0, 39, 1, 10, 0, 5), o},
		{late, on(0, 30, 1, 10, 0, 5), o},
		{late, on(0, 29, 1, 10, 0, 5), n},
		// On one ramp no two carts come at once; on two ramps they may.
		{yard(), on(0, 5, 1, 10, 0, 5), n},
		{swept, on(0, 5, 1, 10, 0, 5), n},
		{yard(), on(0, 10, 1, 10, 0, 5), n},
		{yard(), on(0, 0, 0, 0, 0, 30), n},
		{wide(20, 20), on(1, 7, 1, 7), n},
		{wide(20, 20), on(1, 7, 2, 7), s},
		{wide(1, 1), on(1, 7, 1, 7), n},
		{wide(1, 1), on(1, 7, 1, 8), s},
		{wide(480), on(1, 0), s},
		{wide(480), on(1, 1), o},
		{wide(480), on(1, 480), n},
		// A cart in between is not next to both others.
		{queue(3, 10, 480, 480, 480), on(0, 0, 0, 26, 0, 13), s},
		{queue(3, 10, 480, 480, 480), on(0, 0, 0, 25, 0, 13), o},
		{queue(3, 10, 480, 480, 480), on(0, 0, 0, 16, 0, 13), n},
		{api.Yard{Ramps: make([]api.Ramp, 1)}, nil, s},
	} {
		if v, e := ramp.Holds(c.y, c.plan); e != api.OK || v != c.want {
			t.Error(i, v, e)
		}
	}
}

// P7.1: when carts may be away, whether the plan holds or not.
func TestAway(t *testing.T) {
	for i, c := range []struct {
		y    api.Yard
		plan []api.Slot
		want []api.Span
	}{
		{yard(), on(0, 0, 1, 10, 0, 25), []api.Span{span(15, 20), span(30, 35), span(45, 55)}},
		{yard(), on(0, 0, 0, 0, 0, 0), []api.Span{span(15, 20), span(20, 25), span(20, 30)}},
		{yard(), on(0, 480, 0, 480, 0, 480), []api.Span{span(495, 500), span(500, 505), span(500, 510)}},
		{full(), on(0, 480, 1, 0, 2, 0, 0, 0, 0, 0, 0, 0, 0, 480), append(append([]api.Span{span(580, 960)}, slices.Repeat([]api.Span{span(100, 480)}, 5)...), span(580, 960))},
		{api.Yard{Ramps: make([]api.Ramp, 1)}, nil, nil},
	} {
		if l, e := ramp.Away(c.y, c.plan); e != api.OK || !slices.Equal(l, c.want) {
			t.Error(i, l, e)
		}
	}
}

// plans hands out all plans for carts that may stand where they do, with minutes up to one, whether they hold or not.
func plans(y api.Yard, until int) iter.Seq[[]api.Slot] {
	return func(yield func([]api.Slot) bool) {
		var add func(plan []api.Slot) bool
		add = func(plan []api.Slot) bool {
			if len(plan) == len(y.Carts) {
				return yield(slices.Clone(plan))
			}
			for number := range y.Ramps {
				for from := 0; mayStand(y, len(plan), number) && from <= until; from++ {
					if !add(append(plan, api.Slot{Ramp: number, From: from})) {
						return false
					}
				}
			}
			return true
		}
		add(nil)
	}
}

// ends is the truth in which all carts take as little, or as long, as they may.
func ends(y api.Yard, end func(s api.Span) int) []int {
	var truth []int
	for _, c := range y.Carts {
		truth = append(truth, end(c.Takes))
	}
	return truth
}

// judge holds what Holds and Away say of a plan against all truths, and returns the verdict.
func judge(t *testing.T, y api.Yard, plan []api.Slot) int {
	t.Helper()
	verdict, e := ramp.Holds(y, plan)
	away, f := ramp.Away(y, plan)
	if e != api.OK || f != api.OK || len(away) != len(plan) {
		t.Fatal(y, plan, e, f)
	}
	yes, no := 0, 0
	for truth := range truths(y, len(plan)) {
		if holdsIn(y, plan, truth) {
			yes++
		} else {
			no++
		}
		for cart, n := range truth {
			if at := plan[cart].From + n; at < away[cart].Lo || at > away[cart].Hi {
				t.Fatal(y, plan, truth, away)
			}
		}
	}
	if verdict != map[bool]map[bool]int{true: {true: api.Open, false: api.Sure}, false: {true: api.Never}}[yes > 0][no > 0] {
		t.Fatal(y, plan, verdict, yes, no)
	}
	for cart, s := range plan {
		if takes := y.Carts[cart].Takes; away[cart] != span(s.From+takes.Lo, s.From+takes.Hi) {
			t.Fatal(y, plan, away)
		}
	}
	short := holdsIn(y, plan, ends(y, func(s api.Span) int { return s.Lo }))
	long := holdsIn(y, plan, ends(y, func(s api.Span) int { return s.Hi }))
	if (verdict == api.Sure) != long || (verdict == api.Never) == short {
		t.Fatal(y, plan, verdict, short, long)
	}
	return verdict
}

// P7.5, P7.6: all truths of all plans of tiny yards.
func TestAllPlans(t *testing.T) {
	verdicts := map[int]int{}
	for y := range yards(400, size{2, 2, 7, 3}) {
		for plan := range plans(y, 8) {
			verdicts[judge(t, y, plan)]++
		}
	}
	for y := range yards(12, size{2, 3, 6, 3}) {
		for plan := range plans(y, 7) {
			verdicts[judge(t, y, plan)]++
		}
	}
	if verdicts[api.Sure] < 300 || verdicts[api.Open] < 300 || verdicts[api.Never] < 300 {
		t.Error("few verdicts of a kind:", verdicts)
	}
}

// P7.5, P7.6: plans of greater yards that nearly hold: those of Serve with a slot that is a bit sooner or later.
func TestNearPlans(t *testing.T) {
	r := rand.New(rand.NewPCG(7, 5))
	verdicts := map[int]int{}
	for y := range yards(10000, size{2, 4, 40, 9}) {
		plan, _, ok := served(t, y)
		if !ok || len(plan) == 0 {
			continue
		}
		verdicts[judge(t, y, plan)]++
		s := &plan[r.IntN(len(plan))]
		s.From = max(0, s.From+r.IntN(13)-6)
		verdicts[judge(t, y, plan)]++
	}
	if verdicts[api.Sure] < 500 || verdicts[api.Open] < 100 || verdicts[api.Never] < 100 {
		t.Error("few verdicts of a kind:", verdicts)
	}
}
