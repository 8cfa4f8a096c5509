package price

import (
	"cmp"
	"iter"

	"shambles/api"
)

// The places of the numbers of a sale that is known.
const (
	inGrams = iota
	inCents
	both
)

// known is a sale of which grams and cents are known.
type known [both]int

// perKilogram is for how many grams a price is.
const perKilogram = 1000

func (k known) turnover() int { return k[inGrams] * k[inCents] / perKilogram }

// end is an end of what may be: it says which number of a span is meant here, and which one at the other end.
type end struct{ here, there func(s api.Span) int }

// between returns the span from what there is at the low end to what there is at the high end.
func between(find func(at end) int) api.Span {
	low := func(s api.Span) int { return s.Lo }
	high := func(s api.Span) int { return s.Hi }
	return api.Span{Lo: find(end{low, high}), Hi: find(end{high, low})}
}

func (at end) sale(s api.Sale) known {
	return known{inGrams: at.here(s.Grams), inCents: at.here(s.Cents)}
}

// weighs returns the grams of all sales together.
func (at end) weighs(sales iter.Seq[api.Sale]) int {
	sum := 0
	for s := range sales {
		sum += at.sale(s)[inGrams]
	}
	return sum
}

// turnovers returns the turnover of each stall that has sales.
func (at end) turnovers(sales []api.Sale) map[int]int {
	sums := map[int]int{}
	for _, s := range sales {
		sums[s.Stall] += at.sale(s).turnover()
	}
	return sums
}

// tried returns a sale as it is at this end of the price, when a price is tried. At the low end sales for at most so much have as many grams as may be, and all others as few; at the high end it is the other way round.
func (at end) tried(s api.Sale, price int) known {
	k := at.sale(s)
	if k[inCents] <= price {
		k[inGrams] = at.there(s.Grams)
	}
	return k
}

// price returns the price of sales that may all have grams, or 0 if there are no sales.
func (at end) price(sales iter.Seq[api.Sale]) int {
	// Half of all is enough: as much as the rest.
	enough := func(price int) bool {
		cheap, dear := 0, 0
		for s := range sales {
			if k := at.tried(s, price); k[inCents] <= price {
				cheap += k[inGrams]
			} else {
				dear += k[inGrams]
			}
		}
		return cheap >= dear
	}
	// The least price that is enough is that of a sale.
	return least(func(yield func(price int) bool) {
		for s := range sales {
			if price := at.sale(s)[inCents]; enough(price) && !yield(price) {
				return
			}
		}
	})
}

// least returns the least one of some things, or the zero value if there are none.
func least[T cmp.Ordered](things iter.Seq[T]) T {
	var best T
	found := false
	for thing := range things {
		if !found || thing < best {
			best, found = thing, true
		}
	}
	return best
}
