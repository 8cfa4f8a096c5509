package scale_test

import (
	"math/rand/v2"
	"slices"
	"testing"

	"shambles/api"
	"shambles/scale"
)

// P1.1, P1.2: the examples of the chapter.
func TestKnown(t *testing.T) {
	offs, e := scale.Offs(bench())
	if !slices.Equal(offs, []api.Span{span(0, 0), span(3, 5), span(-6, -2)}) || e != api.OK {
		t.Error(offs, e)
	}
	errors, e := scale.Errors(bench(), 0)
	if !slices.Equal(errors, []api.Span{span(1, 5), span(3, 7), span(5, 7), span(4, 9), span(3, 11)}) || e != api.OK {
		t.Error(errors, e)
	}
	if w, e := scale.Weight(bench(), 0, 3, 750); w != span(741, 746) || e != api.OK {
		t.Error(w, e)
	}
	if w, e := scale.Weight(bench(), 0, 4, 0); w != span(-11, -3) || e != api.OK {
		t.Error(w, e)
	}
	for limit, want := range map[int]int{0: api.Never, 3: api.Never, 4: api.Open, 8: api.Open, 9: api.Sure, 10000: api.Sure} {
		if v, e := scale.Keeps(bench(), 0, 3, limit); v != want || e != api.OK {
			t.Error(limit, v, e)
		}
	}
}

// P1.2: a scale that shows too little is within the limit on the other side.
func TestKeepsBelow(t *testing.T) {
	b := api.Bench{Masses: []api.Mass{{Nominal: 9}}, Scales: []api.Scale{{First: span(-7, -4)}}}
	for limit, want := range map[int]int{3: api.Never, 4: api.Open, 6: api.Open, 7: api.Sure} {
		if v, e := scale.Keeps(b, 0, 0, limit); v != want || e != api.OK {
			t.Error(limit, v, e)
		}
	}
}

// P1.1: without results all is as wide as it is given, at the limits too.
func TestWidest(t *testing.T) {
	b := full()
	b.Weighings, b.Trials = nil, nil
	errors, e := scale.Errors(b, 2)
	for day, s := range errors {
		if s != span(-(day+1)*api.MaxOff, (day+1)*api.MaxOff) {
			t.Error(day, s)
		}
	}
	if len(errors) != api.MaxWatch+1 || e != api.OK {
		t.Error(errors, e)
	}
	if w, e := scale.Weight(b, 2, 8, 0); w != span(-90000, 90000) || e != api.OK {
		t.Error(w, e)
	}
}

// P1.1: a trial that no error explains contradicts, however far it is off.
func TestFarOff(t *testing.T) {
	b := full()
	b.Trials[5].Shown = 2 * api.MaxNominal
	if l, e := scale.Offs(b); l != nil || e != api.ErrClash {
		t.Error(l, e)
	}
	if l, e := scale.Clash(b); !slices.Equal(l, []int{11}) || e != api.OK {
		t.Error(l, e)
	}
}

// seen is each number that something may be.
type seen map[int]bool

// is says whether just the numbers of a span were seen.
func (n seen) is(s api.Span) bool {
	for i := s.Lo; i <= s.Hi; i++ {
		if !n[i] {
			return false
		}
	}
	return len(n) == s.Hi-s.Lo+1
}

// P1.7, P1.8, P0: just what is said may be; all truths of small benches are gone through.
func TestAllTruths(t *testing.T) {
	r := rand.New(rand.NewPCG(1, 1))
	possible := 0
	for range 600 {
		b := pickBench(r)
		offs := make([]seen, len(b.Masses))
		for i := range offs {
			offs[i] = seen{}
		}
		errors := make([]seen, len(b.Scales)*(b.Days+1))
		for i := range errors {
			errors[i] = seen{}
		}
		may := false
		for x := range truths(b) {
			if x.holding(b) != all(b) {
				continue
			}
			may = true
			for i, off := range x.offs {
				offs[i][off] = true
			}
			for i, list := range x.errors {
				for day, err := range list {
					errors[i*(b.Days+1)+day][err] = true
				}
			}
		}
		if may {
			possible++
		}
		holdAgainst(t, b, may, offs, errors)
	}
	if possible < 100 || possible > 500 {
		t.Error("the benches are not mixed:", possible)
	}
}

func holdAgainst(t *testing.T, b api.Bench, may bool, offs, errors []seen) {
	t.Helper()
	spans, e := scale.Offs(b)
	if may != (e == api.OK) || !may && e != api.ErrClash {
		t.Fatal(b, may, e)
	}
	for i, s := range spans {
		if !offs[i].is(s) {
			t.Fatal(b, i, s, offs[i])
		}
	}
	for i := range b.Scales {
		spans, e := scale.Errors(b, i)
		if may != (e == api.OK) {
			t.Fatal(b, may, e)
		}
		for day, s := range spans {
			if !errors[i*(b.Days+1)+day].is(s) {
				t.Fatal(b, i, day, s)
			}
			holdDay(t, b, i, day, errors[i*(b.Days+1)+day])
		}
	}
}

// holdDay holds Weight and Keeps of a day against the errors that there may be.
func holdDay(t *testing.T, b api.Bench, i, day int, errors seen) {
	t.Helper()
	const shown = 12
	weights := seen{}
	for err := range errors {
		weights[shown-err] = true
	}
	if w, e := scale.Weight(b, i, day, shown); e != api.OK || !weights.is(w) {
		t.Fatal(b, i, day, w, e)
	}
	for limit := range 4 {
		within := 0
		for err := range errors {
			if -limit <= err && err <= limit {
				within++
			}
		}
		want := api.Open
		if within == 0 {
			want = api.Never
		} else if within == len(errors) {
			want = api.Sure
		}
		if v, e := scale.Keeps(b, i, day, limit); v != want || e != api.OK {
			t.Fatal(b, i, day, limit, v, e)
		}
	}
}

// pickTrue returns a great bench, and a truth with which all of its results hold.
func pickTrue(r *rand.Rand) (api.Bench, truth) {
	b := full()
	var x truth
	for i := range b.Masses {
		b.Masses[i] = api.Mass{Nominal: pick(r, 200000, 900000), Off: pickSpan(r, 3000)}
		x.offs = append(x.offs, pick(r, b.Masses[i].Off.Lo, b.Masses[i].Off.Hi))
	}
	for i := range b.Scales {
		s := api.Scale{First: pickSpan(r, 3000), Drift: pickSpan(r, 300)}
		b.Scales[i] = s
		errors := []int{pick(r, s.First.Lo, s.First.Hi)}
		for day := range b.Days {
			errors = append(errors, errors[day]+pick(r, s.Drift.Lo, s.Drift.Hi))
		}
		x.errors = append(x.errors, errors)
	}
	for i := range b.Weighings {
		w := &b.Weighings[i]
		w.A = r.IntN(5)
		w.B = (w.A + pick(r, 1, 4)) % 5
		diff := x.offs[w.A] - x.offs[w.B]
		w.Diff = span(diff-pick(r, 0, 500), diff+pick(r, 0, 500))
	}
	for i := range b.Trials {
		c := &b.Trials[i]
		c.Scale, c.Day, c.Mass = r.IntN(3), pick(r, 0, b.Days), r.IntN(5)
		c.Shown = b.Masses[c.Mass].Nominal + x.offs[c.Mass] + x.errors[c.Scale][c.Day]
	}
	return b, x
}

func has(s api.Span, n int) bool { return s.Lo <= n && n <= s.Hi }

// P1.7: the truth is within what is said, in great benches too; both ends are reached: with a number that is at an end, or behind it, the bench may be, or not.
func TestTruth(t *testing.T) {
	r := rand.New(rand.NewPCG(7, 7))
	for range 40 {
		b, x := pickTrue(r)
		offs, e := scale.Offs(b)
		if e != api.OK {
			t.Fatal(b, e)
		}
		for i, s := range offs {
			if !has(s, x.offs[i]) {
				t.Fatal(b, i, s, x.offs[i])
			}
			holdEnds(t, b, i, s)
		}
		for i := range b.Scales {
			errors, _ := scale.Errors(b, i)
			for day, err := range x.errors[i] {
				if !has(errors[day], err) {
					t.Fatal(b, i, day, errors[day], err)
				}
				const load = 5000
				w, e := scale.Weight(b, i, day, load+max(err, -load))
				if e != api.OK || err > -load && !has(w, load) {
					t.Fatal(b, i, day, w, e)
				}
			}
		}
	}
}

func holdEnds(t *testing.T, b api.Bench, mass int, s api.Span) {
	t.Helper()
	for off, want := range map[int]api.Errno{s.Lo: api.OK, s.Hi: api.OK, s.Lo - 1: api.ErrClash, s.Hi + 1: api.ErrClash} {
		fixed := copied(b)
		if !has(b.Masses[mass].Off, off) {
			continue
		}
		fixed.Masses[mass].Off = span(off, off)
		if _, e := scale.Offs(fixed); e != want {
			t.Fatal(fixed, mass, off, e)
		}
	}
}

// told is all that is said of a bench.
func told(b api.Bench) (spans []api.Span, verdicts []int, e api.Errno) {
	spans, e = scale.Offs(b)
	for i := range b.Scales {
		errors, _ := scale.Errors(b, i)
		spans = append(spans, errors...)
		for day := range errors {
			w, _ := scale.Weight(b, i, day, 15)
			spans = append(spans, w)
			for limit := range 4 {
				v, _ := scale.Keeps(b, i, day, limit)
				verdicts = append(verdicts, v)
			}
		}
	}
	return spans, verdicts, e
}

// P1.10: results in another order, or twice, say the same.
func TestAnyOrder(t *testing.T) {
	r := rand.New(rand.NewPCG(10, 10))
	for range 300 {
		b := pickBench(r)
		spans, verdicts, e := told(b)
		other := copied(b)
		for _, w := range b.Weighings {
			if len(other.Weighings) < api.MaxWeighings && r.IntN(2) == 0 {
				other.Weighings = append(other.Weighings, w)
			}
		}
		for _, c := range b.Trials {
			if len(other.Trials) < api.MaxTrials && r.IntN(2) == 0 {
				other.Trials = append(other.Trials, c)
			}
		}
		r.Shuffle(len(other.Weighings), func(i, j int) {
			other.Weighings[i], other.Weighings[j] = other.Weighings[j], other.Weighings[i]
		})
		r.Shuffle(len(other.Trials), func(i, j int) {
			other.Trials[i], other.Trials[j] = other.Trials[j], other.Trials[i]
		})
		l, v, f := told(other)
		if e != f || !slices.Equal(l, spans) || !slices.Equal(v, verdicts) {
			t.Fatal(b, other, e, f)
		}
		list, _ := scale.Clash(b)
		again, _ := scale.Clash(other)
		if len(list) != len(again) {
			t.Fatal(b, other, list, again)
		}
	}
}

// P1.11: one more result makes nothing wider, and what is Sure or Never stays.
func TestOneMore(t *testing.T) {
	r := rand.New(rand.NewPCG(11, 11))
	compared := 0
	for range 600 {
		b := pickBench(r)
		more := copied(b)
		if w, ok := pickWeighing(r, b); ok && r.IntN(2) == 0 {
			more.Weighings = append(more.Weighings, w)
		} else {
			more.Trials = append(more.Trials, pickTrial(r, b))
		}
		wide, before, e := told(b)
		narrow, after, f := told(more)
		if e != api.OK && f == api.OK {
			t.Fatal(b, more, e, f)
		}
		if f != api.OK {
			continue
		}
		compared++
		for i, s := range narrow {
			if s.Lo < wide[i].Lo || s.Hi > wide[i].Hi || s.Lo > s.Hi {
				t.Fatal(b, more, s, wide[i])
			}
		}
		for i, v := range after {
			if before[i] != api.Open && v != before[i] {
				t.Fatal(b, more, v, before[i])
			}
		}
	}
	if compared < 100 {
		t.Error("too few benches:", compared)
	}
}
