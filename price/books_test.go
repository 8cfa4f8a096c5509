package price_test

import (
	"iter"
	"math/rand/v2"
	"slices"
	"sort"
	"testing"

	"shambles/api"
	"shambles/price"
)

func span(low, high int) api.Span { return api.Span{Lo: low, Hi: high} }

func one(n int) api.Span { return span(n, n) }

// within says whether a span is within another one.
func within(s, other api.Span) bool { return other.Lo <= s.Lo && s.Hi <= other.Hi }

// book is the book B of the chapter's examples.
func book() api.Book {
	return api.Book{
		Stalls: 2,
		Goods:  2,
		Sales: []api.Sale{
			{Stall: 0, Good: 0, Grams: one(1000), Cents: one(500)},
			{Stall: 1, Good: 0, Grams: span(2000, 3000), Cents: span(600, 700)},
			{Stall: 0, Good: 0, Grams: span(0, 500), Cents: one(900)},
			{Stall: 1, Good: 1, Grams: span(0, 100), Cents: span(50, 60)},
		},
	}
}

// bookE is the book E of the chapter's examples.
func bookE() api.Book {
	return api.Book{Stalls: 1, Goods: 1, Sales: []api.Sale{{Grams: one(5), Cents: one(20)}}}
}

// changed is the book B with a change.
func changed(change func(b *api.Book)) api.Book {
	b := book()
	change(&b)
	return b
}

// full is a book with as much as there may be of everything.
func full() api.Book {
	b := api.Book{Stalls: 8, Goods: 8}
	for range 40 {
		b.Sales = append(b.Sales, api.Sale{Stall: 7, Good: 7, Grams: one(100000), Cents: one(100000)})
	}
	return b
}

// ofOne is a book of one stall and one good.
func ofOne(sales ...api.Sale) api.Book { return api.Book{Stalls: 1, Goods: 1, Sales: sales} }

// copied shares no memory with b.
func copied(b api.Book) api.Book {
	b.Sales = slices.Clone(b.Sales)
	return b
}

// same says whether books are equal; a nil slice is equal to an empty one.
func same(b, c api.Book) bool {
	return b.Stalls == c.Stalls && b.Goods == c.Goods && slices.Equal(b.Sales, c.Sales)
}

// empty says whether a book is a zero value.
func empty(b api.Book) bool { return same(b, api.Book{}) }

// size is how large books are at most: stalls, goods, sales, grams and cents, and how wide spans are.
type size struct{ stalls, goods, sales, grams, cents, wide int }

// pickSpan returns a span from 0 to most that is at most so wide; now and then it is 0 alone, or begins with 0.
func pickSpan(r *rand.Rand, most, wide int) api.Span {
	if r.IntN(6) == 0 {
		return span(0, min(most, r.IntN(wide+1)))
	}
	low := r.IntN(most + 1)
	return span(low, min(most, low+r.IntN(wide+1)))
}

// pickBook returns a book of a size.
func pickBook(r *rand.Rand, s size) api.Book {
	b := api.Book{Stalls: 1 + r.IntN(s.stalls), Goods: 1 + r.IntN(s.goods)}
	for range r.IntN(s.sales + 1) {
		b.Sales = append(b.Sales, api.Sale{
			Stall: r.IntN(b.Stalls),
			Good:  r.IntN(b.Goods),
			Grams: pickSpan(r, s.grams, s.wide),
			Cents: pickSpan(r, s.cents, s.wide),
		})
	}
	return b
}

// books hands out so many books of a size.
func books(many int, s size) iter.Seq[api.Book] {
	return func(yield func(api.Book) bool) {
		r := rand.New(rand.NewPCG(8, uint64(many)))
		for range many {
			if !yield(pickBook(r, s)) {
				return
			}
		}
	}
}

// Sizes of books: of the small ones all truths can be looked at; the great ones are as large as they may be.
var (
	small = size{2, 2, 5, 4, 5, 2}
	dear  = size{2, 1, 3, 4000, 3000, 3}
	great = size{8, 8, 40, 100000, 100000, 60000}
	few   = size{2, 2, 6, 100000, 100000, 80000}
)

// pickSteps returns steps that begin up to a turnover.
func pickSteps(r *rand.Rand, most int) []api.Step {
	steps := []api.Step{{Share: r.IntN(1001)}}
	for range r.IntN(5) {
		from := steps[len(steps)-1].From + 1 + r.IntN(most)
		steps = append(steps, api.Step{From: from, Share: r.IntN(1001)})
	}
	return steps
}

// sold is what truly is sold in a sale.
type sold struct{ stall, good, grams, cents int }

// truths hands out all that may truly be sold in a book.
func truths(b api.Book) iter.Seq[[]sold] {
	return func(yield func([]sold) bool) {
		var add func(truth []sold) bool
		add = func(truth []sold) bool {
			if len(truth) == len(b.Sales) {
				return yield(truth)
			}
			s := b.Sales[len(truth)]
			for grams := s.Grams.Lo; grams <= s.Grams.Hi; grams++ {
				for cents := s.Cents.Lo; cents <= s.Cents.Hi; cents++ {
					if !add(append(truth, sold{s.Stall, s.Good, grams, cents})) {
						return false
					}
				}
			}
			return true
		}
		add(make([]sold, 0, len(b.Sales)))
	}
}

// corners hands out what may truly be sold in a book if all numbers are at one of their ends.
func corners(b api.Book) iter.Seq[[]sold] {
	return func(yield func([]sold) bool) {
		for bits := range 1 << (2 * len(b.Sales)) {
			var truth []sold
			for i, s := range b.Sales {
				grams, cents := s.Grams.Lo, s.Cents.Lo
				if bits>>(2*i)&1 == 1 {
					grams = s.Grams.Hi
				}
				if bits>>(2*i+1)&1 == 1 {
					cents = s.Cents.Hi
				}
				truth = append(truth, sold{s.Stall, s.Good, grams, cents})
			}
			if !yield(truth) {
				return
			}
		}
	}
}

// pickTruth returns something that may truly be sold in a book.
func pickTruth(r *rand.Rand, b api.Book) []sold {
	pick := func(s api.Span) int {
		switch r.IntN(4) {
		case 0:
			return s.Lo
		case 1:
			return s.Hi
		}
		return s.Lo + r.IntN(s.Hi-s.Lo+1)
	}
	var truth []sold
	for _, s := range b.Sales {
		truth = append(truth, sold{s.Stall, s.Good, pick(s.Grams), pick(s.Cents)})
	}
	return truth
}

// exact is a book in which it is known what truly is sold.
func exact(b api.Book, truth []sold) api.Book {
	b.Sales = nil
	for _, s := range truth {
		b.Sales = append(b.Sales, api.Sale{Stall: s.stall, Good: s.good, Grams: one(s.grams), Cents: one(s.cents)})
	}
	return b
}

// gramsOf returns the grams of the sales of a good that are for less than so many cents.
func gramsOf(truth []sold, good, below int) int {
	sum := 0
	for _, s := range truth {
		if s.good == good && s.cents < below {
			sum += s.grams
		}
	}
	return sum
}

// dayPrice is the day's price of a good just as the chapter has it, and whether there is one.
func dayPrice(truth []sold, good int) (int, bool) {
	all := gramsOf(truth, good, api.MaxCents+1)
	// With more cents there are no fewer grams.
	cents := sort.Search(api.MaxCents, func(cents int) bool { return 2*gramsOf(truth, good, cents+1) >= all })
	return cents, all > 0
}

// turnoverOf is the turnover of a stall just as the chapter has it.
func turnoverOf(truth []sold, stall int) int {
	sum := 0
	for _, s := range truth {
		if s.stall == stall {
			sum += s.grams * s.cents / 1000
		}
	}
	return sum
}

// duesUpTo returns the dues on all turnovers up to one, cent by cent.
func duesUpTo(most int, steps []api.Step) []int {
	dues, thousandths := []int{0}, 0
	for cent := range most {
		share := 0
		for _, s := range steps {
			if s.From <= cent {
				share = s.Share
			}
		}
		thousandths += share
		dues = append(dues, thousandths/1000)
	}
	return dues
}

// reached is the least and the greatest of the numbers that were met, and how often there was none.
type reached struct {
	span      api.Span
	met, none int
}

func (x *reached) meet(n int, ok bool) {
	switch {
	case !ok:
		x.none++
		return
	case x.met == 0:
		x.span = one(n)
	}
	x.met++
	x.span = span(min(x.span.Lo, n), max(x.span.Hi, n))
}

// verdict says whether some number was met, whatever truly is.
func (x *reached) verdict() int {
	switch {
	case x.met == 0:
		return api.Never
	case x.none == 0:
		return api.Sure
	}
	return api.Open
}

// asked returns what Price says of a good.
func asked(t *testing.T, b api.Book, good int) (int, api.Span) {
	t.Helper()
	verdict, cents, e := price.Price(b, good)
	if e != api.OK || cents.Lo > cents.Hi || verdict == api.Never && cents != span(0, 0) {
		t.Fatal(b, good, verdict, cents, e)
	}
	return verdict, cents
}

// turned returns what Turnover says of a stall.
func turned(t *testing.T, b api.Book, stall int) api.Span {
	t.Helper()
	turnover, e := price.Turnover(b, stall)
	if e != api.OK {
		t.Fatal(b, stall, e)
	}
	return turnover
}

// owed returns what Dues says.
func owed(t *testing.T, b api.Book, steps []api.Step) []api.Span {
	t.Helper()
	dues, e := price.Dues(b, steps)
	if e != api.OK || len(dues) != b.Stalls {
		t.Fatal(b, steps, dues, e)
	}
	return dues
}
