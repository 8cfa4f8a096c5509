package price_test

import (
	"iter"
	"math/rand/v2"
	"slices"
	"testing"

	"shambles/api"
	"shambles/scale"
)

// pickBench returns a bench of one mass and some scales, without trials yet.
func pickBench(r *rand.Rand) api.Bench {
	b := api.Bench{Masses: []api.Mass{{Nominal: 10, Off: span(-r.IntN(2), r.IntN(2))}}, Days: r.IntN(3)}
	for range 1 + r.IntN(2) {
		b.Scales = append(b.Scales, api.Scale{First: span(-r.IntN(3), r.IntN(2)), Drift: span(-r.IntN(2), r.IntN(2))})
	}
	return b
}

// offs is what the mass of a bench is off, and behind it the errors of each scale, day by day.
type offs []int

func (o offs) on(b api.Bench, scale, day int) int { return o[1+scale*(b.Days+1)+day] }

// holds says whether all trials of a bench hold.
func (o offs) holds(b api.Bench) bool {
	return !slices.ContainsFunc(b.Trials, func(x api.Trial) bool {
		return x.Shown != b.Masses[0].Nominal+o[0]+o.on(b, x.Scale, x.Day)
	})
}

// next returns what may come behind the first numbers.
func (o offs) next(b api.Bench) api.Span {
	if len(o) == 0 {
		return b.Masses[0].Off
	}
	scale, day := (len(o)-1)/(b.Days+1), (len(o)-1)%(b.Days+1)
	if day == 0 {
		return b.Scales[scale].First
	}
	before, drift := o[len(o)-1], b.Scales[scale].Drift
	return span(before+drift.Lo, before+drift.Hi)
}

// mays hands out all that mass and scales of a bench may be off.
func mays(b api.Bench) iter.Seq[offs] {
	return func(yield func(offs) bool) {
		var add func(o offs) bool
		add = func(o offs) bool {
			if len(o) == 1+len(b.Scales)*(b.Days+1) {
				return !o.holds(b) || yield(slices.Clone(o))
			}
			s := o.next(b)
			for n := s.Lo; n <= s.Hi; n++ {
				if !add(append(o, n)) {
					return false
				}
			}
			return true
		}
		add(nil)
	}
}

// weighing is on which scale, and on which day, a sale was weighed, and what the scale showed.
type weighing struct{ scale, day, shown int }

// pickWeighing returns how some grams were weighed when scales are off so much.
func pickWeighing(r *rand.Rand, b api.Bench, o offs, grams int) weighing {
	w := weighing{scale: r.IntN(len(b.Scales)), day: r.IntN(b.Days + 1)}
	w.shown = grams + o.on(b, w.scale, w.day)
	return w
}

// weigh returns a book in which the grams of sales are what scales may truly have carried, and how each sale was weighed.
func weigh(t *testing.T, r *rand.Rand, b api.Bench, o offs) (api.Book, []weighing) {
	t.Helper()
	book := api.Book{Stalls: 2, Goods: 2}
	var weighings []weighing
	for range 1 + r.IntN(6) {
		w := pickWeighing(r, b, o, r.IntN(10))
		if w.shown < 0 {
			continue
		}
		grams, e := scale.Weight(b, w.scale, w.day, w.shown)
		if e != api.OK {
			t.Fatal(b, o, w, e)
		}
		// Nothing that is sold weighs less than nothing.
		grams.Lo = max(0, grams.Lo)
		book.Sales = append(book.Sales, api.Sale{Stall: r.IntN(2), Good: r.IntN(2), Grams: grams, Cents: pickSpan(r, 3000, 2000)})
		weighings = append(weighings, w)
	}
	return book, weighings
}

// carried returns what truly was sold when scales are off so much, and whether that can be.
func carried(r *rand.Rand, b api.Bench, o offs, book api.Book, weighings []weighing) ([]sold, bool) {
	truth := pickTruth(r, book)
	for i, w := range weighings {
		truth[i].grams = w.shown - o.on(b, w.scale, w.day)
		if truth[i].grams < 0 {
			return nil, false
		}
	}
	return truth, true
}

// T1: the day's price and the turnovers of what truly was sold are within what the book says, whatever the errors of the scales truly are.
func TestWeighed(t *testing.T) {
	r := rand.New(rand.NewPCG(1, 8))
	held, wide := 0, 0
	for range 400 {
		b := pickBench(r)
		all := slices.Collect(mays(b))
		o := all[r.IntN(len(all))]
		for range r.IntN(3) {
			x := api.Trial{Scale: r.IntN(len(b.Scales)), Day: r.IntN(b.Days + 1)}
			x.Shown = b.Masses[0].Nominal + o[0] + o.on(b, x.Scale, x.Day)
			b.Trials = append(b.Trials, x)
		}
		book, weighings := weigh(t, r, b, o)
		prices, turnovers := map[int]api.Span{}, map[int]api.Span{}
		verdicts := map[int]int{}
		for n := range 2 {
			verdicts[n], prices[n] = asked(t, book, n)
			turnovers[n] = turned(t, book, n)
		}
		for o := range mays(b) {
			truth, ok := carried(r, b, o, book, weighings)
			if !ok {
				continue
			}
			held++
			for n := range 2 {
				cents, ok := dayPrice(truth, n)
				if ok && (verdicts[n] == api.Never || !within(one(cents), prices[n])) || !ok && verdicts[n] == api.Sure {
					t.Fatal(b, book, weighings, truth, n, verdicts[n], prices[n], cents, ok)
				}
				if turnover := turnoverOf(truth, n); !within(one(turnover), turnovers[n]) {
					t.Fatal(b, book, weighings, truth, n, turnovers[n], turnover)
				}
			}
		}
		if turnovers[0].Lo < turnovers[0].Hi {
			wide++
		}
	}
	if held < 5000 || wide < 100 {
		t.Error("few truths:", held, wide)
	}
}
