package cold_test

import (
	"iter"
	"math/rand/v2"
	"slices"

	"shambles/api"
)

func span(low, high int) api.Span { return api.Span{Lo: low, Hi: high} }

// cellar is the cellar C of the chapter's examples.
func cellar() api.Cellar {
	return api.Cellar{
		Hall:     span(100, 150),
		Boxes:    []api.Box{{Room: 1000, Ice: span(500, 600), Melt: span(200, 250), Cold: span(-10, 10), Warm: span(50, 80)}},
		Fillings: []api.Filling{{Box: 0, Hour: 4, Grams: 300}},
		Rates:    []api.Rate{{Above: -50, Loss: 1}, {Above: 20, Loss: 5}, {Above: 100, Loss: 20}},
	}
}

// lot is the lot L of the chapter's examples.
func lot() api.Lot {
	return api.Lot{Born: 0, Keeps: 60, Stays: []api.Stay{{Box: 0, From: 0, To: 6}}}
}

// changed is the cellar C with a change.
func changed(change func(c *api.Cellar)) api.Cellar {
	c := cellar()
	change(&c)
	return c
}

// other is the lot L with a change.
func other(change func(l *api.Lot)) api.Lot {
	l := lot()
	change(&l)
	return l
}

// keeping is the lot L that keeps until it has lost so much.
func keeping(loss int) api.Lot { return other(func(l *api.Lot) { l.Keeps = loss }) }

// full is a cellar, and a lot, with as much as there may be of everything.
func full() (api.Cellar, api.Lot) {
	c := api.Cellar{Hall: span(-300, 400)}
	l := api.Lot{Born: 231, Keeps: 100000}
	for range 6 {
		c.Boxes = append(c.Boxes, api.Box{Room: 100000, Ice: span(0, 100000), Melt: span(0, 100000), Cold: span(-300, -300), Warm: span(-300, 400)})
	}
	for i := range 20 {
		c.Fillings = append(c.Fillings, api.Filling{Box: i % 6, Hour: 220 + i, Grams: 100000})
	}
	for i := range 6 {
		c.Rates = append(c.Rates, api.Rate{Above: -300 + 140*i, Loss: 500 + 100*i})
	}
	for i := range 8 {
		l.Stays = append(l.Stays, api.Stay{Box: i % 6, From: 232 + i, To: 233 + i})
	}
	return c, l
}

// copied shares no memory with c.
func copied(c api.Cellar) api.Cellar {
	c.Boxes, c.Fillings, c.Rates = slices.Clone(c.Boxes), slices.Clone(c.Fillings), slices.Clone(c.Rates)
	return c
}

// same says whether cellars and lots are equal; a nil slice is equal to an empty one.
func same(c, d api.Cellar, lots, others []api.Lot) bool {
	return c.Hall == d.Hall && slices.Equal(c.Boxes, d.Boxes) && slices.Equal(c.Fillings, d.Fillings) && slices.Equal(c.Rates, d.Rates) &&
		slices.EqualFunc(lots, others, func(l, m api.Lot) bool {
			return l.Born == m.Born && l.Keeps == m.Keeps && slices.Equal(l.Stays, m.Stays)
		})
}

// empty says whether cellar and lots are zero values.
func empty(c api.Cellar, lots []api.Lot) bool { return same(c, api.Cellar{}, lots, nil) }

// pickSpan returns a span that begins at a number from least to most, and is at most so wide.
func pickSpan(r *rand.Rand, least, most, wide int) api.Span {
	low := least + r.IntN(most-least+1)
	return span(low, low+r.IntN(wide+1))
}

// pickCellar returns a cellar of at most so many boxes, with fillings in hours before one, and with small numbers that often are equal.
func pickCellar(r *rand.Rand, boxes, before int) api.Cellar {
	c := api.Cellar{Hall: pickSpan(r, 0, 8, 2)}
	for range r.IntN(boxes + 1) {
		b := api.Box{Room: 2 + r.IntN(6), Melt: pickSpan(r, 0, 2, 2), Cold: pickSpan(r, 0, 3, 2)}
		low := r.IntN(b.Room + 1)
		b.Ice = span(low, min(b.Room, low+r.IntN(3)))
		b.Warm = pickSpan(r, b.Cold.Hi, 6, 2)
		c.Boxes = append(c.Boxes, b)
		for range r.IntN(4) {
			c.Fillings = append(c.Fillings, api.Filling{Box: r.IntN(len(c.Boxes)), Hour: r.IntN(before), Grams: r.IntN(5)})
		}
	}
	slices.SortStableFunc(c.Fillings, func(f, g api.Filling) int { return f.Hour - g.Hour })
	at, loss := r.IntN(4)-1, 0
	for range 1 + r.IntN(3) {
		loss += r.IntN(3)
		c.Rates = append(c.Rates, api.Rate{Above: at, Loss: loss})
		at += 1 + r.IntN(4)
	}
	return c
}

// pickLot returns a lot for a cellar with all its stays before an hour.
func pickLot(r *rand.Rand, c api.Cellar, before int) api.Lot {
	l := api.Lot{Born: r.IntN(before / 2), Keeps: r.IntN(3 * before)}
	for at := l.Born + r.IntN(3); at+1 < before && len(c.Boxes) > 0 && len(l.Stays) < 8; {
		to := min(before, at+1+r.IntN(before/2))
		l.Stays = append(l.Stays, api.Stay{Box: r.IntN(len(c.Boxes)), From: at, To: to})
		at = to + r.IntN(3)
	}
	return l
}

// cellars hands out C with L, and small cellars with a lot each, of which all that happens happens before an hour.
func cellars(many, before int) iter.Seq2[api.Cellar, api.Lot] {
	return func(yield func(api.Cellar, api.Lot) bool) {
		if !yield(cellar(), lot()) {
			return
		}
		smallCellars(many, before)(yield)
	}
}

// smallCellars hands out small cellars with a lot each: all truths of them can be looked at.
func smallCellars(many, before int) iter.Seq2[api.Cellar, api.Lot] {
	return func(yield func(api.Cellar, api.Lot) bool) {
		r := rand.New(rand.NewPCG(4, 18))
		for range many {
			c := pickCellar(r, 2, before)
			if !yield(c, pickLot(r, c, before)) {
				return
			}
		}
	}
}

// truth is what there truly is: the grams in two boxes, and what a lot has lost.
type truth struct {
	ice  [2]int
	lost int
}

type truths map[truth]bool

// then returns what each truth may become.
func (all truths) then(become func(t truth, add func(t truth))) truths {
	next := truths{}
	for t := range all {
		become(t, func(t truth) { next[t] = true })
	}
	return next
}

// firstTruths returns what there may truly be before all hours.
func firstTruths(c api.Cellar) truths {
	all := truths{{}: true}
	for box, b := range c.Boxes {
		all = all.then(func(t truth, add func(t truth)) {
			for t.ice[box] = b.Ice.Lo; t.ice[box] <= b.Ice.Hi; t.ice[box]++ {
				add(t)
			}
		})
	}
	return all
}

// filled returns the truths after all fillings of an hour, one after the other.
func filled(c api.Cellar, hour int, all truths) truths {
	for _, f := range c.Fillings {
		if f.Hour != hour {
			continue
		}
		all = all.then(func(t truth, add func(t truth)) {
			t.ice[f.Box] += f.Grams
			if t.ice[f.Box] > c.Boxes[f.Box].Room {
				t.ice[f.Box] = c.Boxes[f.Box].Room
			}
			add(t)
		})
	}
	return all
}

// worn returns the truths after a lot has lost what it loses in an hour.
func worn(c api.Cellar, l api.Lot, hour int, all truths) truths {
	if hour < l.Born {
		return all
	}
	return all.then(func(t truth, add func(t truth)) {
		warmth := c.Hall
		for _, s := range l.Stays {
			if s.From <= hour && hour < s.To {
				warmth = c.Boxes[s.Box].Warm
				if t.ice[s.Box] > 0 {
					warmth = c.Boxes[s.Box].Cold
				}
			}
		}
		for w := warmth.Lo; w <= warmth.Hi; w++ {
			add(truth{t.ice, t.lost + lossAt(c, w)})
		}
	})
}

// lossAt is the loss at a warmth just as the chapter has it.
func lossAt(c api.Cellar, warmth int) int {
	for _, r := range slices.Backward(c.Rates) {
		if r.Above <= warmth {
			return r.Loss
		}
	}
	return 0
}

// melted returns the truths after the ice has melted that melts in an hour.
func melted(c api.Cellar, all truths) truths {
	for box, b := range c.Boxes {
		all = all.then(func(t truth, add func(t truth)) {
			before := t.ice[box]
			for m := b.Melt.Lo; m <= b.Melt.Hi; m++ {
				t.ice[box] = before - min(m, before)
				add(t)
			}
		})
	}
	return all
}

// hourly hands out hours, each with all that there may truly be in it after its fillings.
func hourly(c api.Cellar, l api.Lot, hours int) iter.Seq2[int, truths] {
	return func(yield func(int, truths) bool) {
		all := firstTruths(c)
		for hour := range hours {
			all = filled(c, hour, all)
			if !yield(hour, all) {
				return
			}
			all = melted(c, worn(c, l, hour, all))
		}
	}
}

// reached returns the least and the greatest number that is told of truths.
func (all truths) reached(told func(t truth) int) api.Span {
	var s api.Span
	first := true
	for t := range all {
		n := told(t)
		if first {
			s = span(n, n)
		}
		s, first = span(min(s.Lo, n), max(s.Hi, n)), false
	}
	return s
}

// verdict returns whether something is so in truths.
func (all truths) verdict(so func(t truth) bool) int {
	yes, no := false, false
	for t := range all {
		if so(t) {
			yes = true
		} else {
			no = true
		}
	}
	switch {
	case !no:
		return api.Sure
	case !yes:
		return api.Never
	}
	return api.Open
}
