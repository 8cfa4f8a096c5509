package scale_test

import (
	"iter"
	"math/rand/v2"
	"slices"

	"shambles/api"
)

func span(low, high int) api.Span { return api.Span{Lo: low, Hi: high} }

// bench is the bench B of the chapter's examples.
func bench() api.Bench {
	return api.Bench{
		Masses: []api.Mass{
			{Nominal: 1000},
			{Nominal: 1000, Off: span(-20, 20)},
			{Nominal: 500, Off: span(-10, 10)},
		},
		Weighings: []api.Weighing{
			{A: 1, B: 0, Diff: span(3, 5)},
			{A: 2, B: 1, Diff: span(-9, -7)},
		},
		Scales: []api.Scale{{First: span(-5, 5), Drift: span(-1, 2)}},
		Trials: []api.Trial{{Scale: 0, Day: 2, Mass: 1, Shown: 1010}},
		Days:   4,
	}
}

// changed is the bench B with a change.
func changed(change func(b *api.Bench)) api.Bench {
	b := bench()
	change(&b)
	return b
}

// broken is the bench B with a trial that contradicts.
func broken() api.Bench {
	return changed(func(b *api.Bench) {
		b.Trials = append(b.Trials, api.Trial{Scale: 0, Day: 3, Mass: 0, Shown: 1011})
	})
}

// full is a bench with as much as there may be of everything.
func full() api.Bench {
	b := api.Bench{Days: api.MaxWatch}
	for range api.MaxMasses {
		b.Masses = append(b.Masses, api.Mass{Nominal: api.MaxNominal, Off: span(-api.MaxOff, api.MaxOff)})
	}
	for i := range api.MaxWeighings {
		b.Weighings = append(b.Weighings, api.Weighing{A: i % 5, B: (i + 1) % 5, Diff: span(-2*api.MaxOff, 2*api.MaxOff)})
	}
	for range api.MaxScales {
		b.Scales = append(b.Scales, api.Scale{First: span(-api.MaxOff, api.MaxOff), Drift: span(-api.MaxOff, api.MaxOff)})
	}
	for i := range api.MaxTrials {
		b.Trials = append(b.Trials, api.Trial{Scale: i % 3, Day: i, Mass: i % 5, Shown: api.MaxNominal - api.MaxOff})
	}
	return b
}

// copied shares no memory with b.
func copied(b api.Bench) api.Bench {
	b.Masses = slices.Clone(b.Masses)
	b.Weighings = slices.Clone(b.Weighings)
	b.Scales = slices.Clone(b.Scales)
	b.Trials = slices.Clone(b.Trials)
	return b
}

// same says whether benches are equal; a nil slice is equal to an empty one.
func same(a, b api.Bench) bool {
	return slices.Equal(a.Masses, b.Masses) && slices.Equal(a.Weighings, b.Weighings) &&
		slices.Equal(a.Scales, b.Scales) && slices.Equal(a.Trials, b.Trials) && a.Days == b.Days
}

// pick returns a number from least to most.
func pick(r *rand.Rand, least, most int) int { return least + r.IntN(most-least+1) }

// pickSpan returns a span within -bound to bound.
func pickSpan(r *rand.Rand, bound int) api.Span {
	a, b := pick(r, -bound, bound), pick(r, -bound, bound)
	return span(min(a, b), max(a, b))
}

// pickBench returns a small bench whose truths can all be gone through.
func pickBench(r *rand.Rand) api.Bench {
	b := api.Bench{Days: pick(r, 0, 2)}
	for range pick(r, 1, 3) {
		b.Masses = append(b.Masses, api.Mass{Nominal: pick(r, 10, 20), Off: pickSpan(r, 2)})
	}
	for range pick(r, 1, 2) {
		b.Scales = append(b.Scales, api.Scale{First: pickSpan(r, 2), Drift: pickSpan(r, 1)})
	}
	for range pick(r, 0, 3) {
		if weighing, ok := pickWeighing(r, b); ok {
			b.Weighings = append(b.Weighings, weighing)
		}
	}
	for range pick(r, 0, 4) {
		b.Trials = append(b.Trials, pickTrial(r, b))
	}
	return b
}

func pickWeighing(r *rand.Rand, b api.Bench) (api.Weighing, bool) {
	w := api.Weighing{A: r.IntN(len(b.Masses)), B: r.IntN(len(b.Masses)), Diff: pickSpan(r, 3)}
	return w, w.A != w.B
}

func pickTrial(r *rand.Rand, b api.Bench) api.Trial {
	mass := r.IntN(len(b.Masses))
	return api.Trial{
		Scale: r.IntN(len(b.Scales)),
		Day:   pick(r, 0, b.Days),
		Mass:  mass,
		Shown: b.Masses[mass].Nominal + pick(r, -3, 3),
	}
}

// truth is what all masses are off, and all errors of all scales.
type truth struct {
	offs   []int
	errors [][]int
}

// holding returns the set of results (a bit for each) that hold with a truth.
func (t truth) holding(b api.Bench) int {
	set := 0
	for i, w := range b.Weighings {
		if d := t.offs[w.A] - t.offs[w.B]; w.Diff.Lo <= d && d <= w.Diff.Hi {
			set |= 1 << i
		}
	}
	for i, x := range b.Trials {
		if x.Shown == b.Masses[x.Mass].Nominal+t.offs[x.Mass]+t.errors[x.Scale][x.Day] {
			set |= 1 << (len(b.Weighings) + i)
		}
	}
	return set
}

// all returns the set of all results.
func all(b api.Bench) int { return 1<<(len(b.Weighings)+len(b.Trials)) - 1 }

// truths hands out all truths of a bench, whether its results hold or not.
func truths(b api.Bench) iter.Seq[truth] {
	return func(yield func(truth) bool) {
		t := truth{offs: make([]int, len(b.Masses))}
		for range b.Scales {
			t.errors = append(t.errors, make([]int, b.Days+1))
		}
		var set func(at int) bool
		set = func(at int) bool {
			if at < len(b.Masses) {
				off := b.Masses[at].Off
				for t.offs[at] = off.Lo; t.offs[at] <= off.Hi; t.offs[at]++ {
					if !set(at + 1) {
						return false
					}
				}
				return true
			}
			scale, day := (at-len(b.Masses))/(b.Days+1), (at-len(b.Masses))%(b.Days+1)
			if scale == len(b.Scales) {
				return yield(t)
			}
			errors, from := t.errors[scale], b.Scales[scale].First
			if day > 0 {
				drift := b.Scales[scale].Drift
				from = span(errors[day-1]+drift.Lo, errors[day-1]+drift.Hi)
			}
			for errors[day] = from.Lo; errors[day] <= from.Hi; errors[day]++ {
				if !set(at + 1) {
					return false
				}
			}
			return true
		}
		set(0)
	}
}
