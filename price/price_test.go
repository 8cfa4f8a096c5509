package price_test

import (
	"iter"
	"math/rand/v2"
	"testing"

	"shambles/api"
	"shambles/price"
)

// of is a sale of the good 0 by the stall 0.
func of(grams, cents api.Span) api.Sale { return api.Sale{Grams: grams, Cents: cents} }

// second is the book B with other grams in the sale 1.
func second(low, high int) api.Book {
	return changed(func(b *api.Book) { b.Sales[1].Grams = span(low, high) })
}

// P8.1: the examples of Price, and prices at which just half is sold.
func TestPrice(t *testing.T) {
	none := span(0, 0)
	for i, k := range []struct {
		b       api.Book
		good    int
		verdict int
		want    api.Span
	}{
		{book(), 0, api.Sure, span(600, 700)},
		{second(500, 3000), 0, api.Sure, span(500, 700)},
		{book(), 1, api.Open, span(50, 60)},
		{bookE(), 0, api.Sure, one(20)},
		{ofOne(of(one(0), one(20))), 0, api.Never, none},
		{ofOne(), 0, api.Never, none},
		{changed(func(b *api.Book) { b.Goods = 3 }), 2, api.Never, none},
		// The sale 0 alone is half of all, or just not.
		{second(1000, 3000), 0, api.Sure, span(500, 700)},
		{second(1001, 3000), 0, api.Sure, span(600, 700)},
		{second(0, 1000), 0, api.Sure, span(500, 700)},
		{second(0, 500), 0, api.Sure, one(500)},
		{second(0, 501), 0, api.Sure, span(500, 700)},
		{second(0, 0), 0, api.Sure, one(500)},
		// The sale 2 alone is more than half of all, or just not.
		{changed(func(b *api.Book) { b.Sales[2].Grams.Hi = 3000 }), 0, api.Sure, span(600, 700)},
		{changed(func(b *api.Book) { b.Sales[2].Grams.Hi = 3001 }), 0, api.Sure, span(600, 900)},
		{ofOne(of(one(10), one(30)), of(one(10), one(20))), 0, api.Sure, one(20)},
		{ofOne(of(one(11), one(30)), of(one(10), one(20))), 0, api.Sure, one(30)},
		{ofOne(of(one(1), one(30)), of(one(1), one(20)), of(one(1), one(10))), 0, api.Sure, one(20)},
		{ofOne(of(one(10), one(30)), of(span(0, 10), span(0, 100))), 0, api.Sure, span(0, 30)},
		{ofOne(of(one(10), one(30)), of(span(0, 11), span(0, 100))), 0, api.Sure, span(0, 100)},
		{ofOne(of(one(10), one(30)), of(span(0, 9), span(0, 100))), 0, api.Sure, one(30)},
		// Sales that surely have no grams have no price.
		{ofOne(of(one(0), one(5)), of(span(0, 1), one(9))), 0, api.Open, one(9)},
		{ofOne(of(one(0), one(9)), of(span(0, 1), one(5)), of(one(0), one(0))), 0, api.Open, one(5)},
		{ofOne(of(one(0), one(0)), of(one(0), span(0, 100000))), 0, api.Never, none},
		{ofOne(of(span(0, 1), one(9)), of(span(0, 1), one(5))), 0, api.Open, span(5, 9)},
		{ofOne(of(span(0, 1), span(3, 9)), of(span(0, 1), span(4, 5))), 0, api.Open, span(3, 9)},
		// Goods for nothing have the price 0.
		{ofOne(of(one(1), one(0))), 0, api.Sure, one(0)},
		{ofOne(of(span(0, 100000), span(0, 100000))), 0, api.Open, span(0, 100000)},
		{ofOne(of(span(1, 100000), span(0, 100000))), 0, api.Sure, span(0, 100000)},
		{full(), 7, api.Sure, one(100000)},
		{full(), 6, api.Never, none},
	} {
		if verdict, cents, e := price.Price(k.b, k.good); verdict != k.verdict || cents != k.want || e != api.OK {
			t.Error(i, verdict, cents, e)
		}
	}
}

// hold holds what Price says of all goods against some of what may truly be sold, with which both ends are reached. It counts the verdicts, and the prices that are not known.
func (c *counts) hold(t *testing.T, b api.Book, some iter.Seq[[]sold]) {
	t.Helper()
	prices := make([]reached, b.Goods)
	for truth := range some {
		for good := range prices {
			prices[good].meet(dayPrice(truth, good))
		}
	}
	for good := range prices {
		verdict, cents := asked(t, b, good)
		if verdict != prices[good].verdict() || cents != prices[good].span {
			t.Fatal(b, good, verdict, cents, prices[good])
		}
		switch verdict {
		case api.Sure:
			c.sure++
		case api.Never:
			c.never++
		case api.Open:
			c.open++
		}
		if cents.Lo < cents.Hi {
			c.wide++
		}
	}
}

type counts struct{ sure, never, open, wide int }

// P8.5, P8.6: all that may truly be sold in small books.
func TestAllPrices(t *testing.T) {
	var c counts
	for b := range books(4000, small) {
		c.hold(t, b, truths(b))
	}
	if c.sure < 1000 || c.never < 1000 || c.open < 300 || c.wide < 1000 {
		t.Error("few prices of a kind:", c)
	}
}

// P8.5, P8.6: all ends of what may truly be sold in books with great numbers.
func TestCorners(t *testing.T) {
	var c counts
	for b := range books(700, few) {
		c.hold(t, b, corners(b))
	}
	if c.sure < 300 || c.never < 100 || c.open < 30 || c.wide < 300 {
		t.Error("few prices of a kind:", c)
	}
}

func lowest(s api.Span) int { return s.Lo }

func highest(s api.Span) int { return s.Hi }

// reaching is what is truly sold if a price is as low, or as high, as it may be: where shows the end that is meant.
func reaching(b api.Book, price int, where func(s api.Span) int) []sold {
	var truth []sold
	for _, s := range b.Sales {
		cents := where(s.Cents)
		// Either all cheap sales are as heavy as may be, and the others as light, or the other way round.
		grams := where(s.Grams)
		if cents <= price {
			grams = s.Grams.Lo + s.Grams.Hi - grams
		}
		truth = append(truth, sold{s.Stall, s.Good, grams, cents})
	}
	return truth
}

// P8.5, P8.6: in great books no price is beyond the ends, and both ends are reached.
func TestGreatPrices(t *testing.T) {
	r := rand.New(rand.NewPCG(8, 5))
	most := 0
	for b := range books(300, great) {
		for good := range b.Goods {
			verdict, cents := asked(t, b, good)
			if verdict == api.Never {
				continue
			}
			low, _ := dayPrice(reaching(b, cents.Lo, lowest), good)
			// One cent less is too little: the sales for the price itself are dear ones then.
			high, ok := dayPrice(reaching(b, cents.Hi-1, highest), good)
			if low != cents.Lo || high != cents.Hi || !ok {
				t.Fatal(b, good, cents, low, high, ok)
			}
			for range 20 {
				if n, ok := dayPrice(pickTruth(r, b), good); ok && !within(one(n), cents) || !ok && verdict == api.Sure {
					t.Fatal(b, good, verdict, cents, n, ok)
				}
			}
			most = max(most, len(b.Sales))
		}
	}
	if most < 40 {
		t.Error("no book was full:", most)
	}
}

// P8.7: in whatever order the sales stand, all is the same.
func TestAnyOrder(t *testing.T) {
	r := rand.New(rand.NewPCG(8, 7))
	for _, s := range []size{small, few, great} {
		for b := range books(200, s) {
			c := copied(b)
			r.Shuffle(len(c.Sales), func(i, j int) { c.Sales[i], c.Sales[j] = c.Sales[j], c.Sales[i] })
			for good := range b.Goods {
				v, x := asked(t, b, good)
				if w, y := asked(t, c, good); v != w || x != y {
					t.Fatal(b, c, good, v, x, w, y)
				}
			}
			list := pickSteps(r, 1000000)
			dues, others := owed(t, b, list), owed(t, c, list)
			for stall := range b.Stalls {
				if x, y := turned(t, b, stall), turned(t, c, stall); x != y || dues[stall] != others[stall] {
					t.Fatal(b, c, stall, x, y, dues, others)
				}
			}
		}
	}
}

// P8.10: what is sold for the day's price or less is at least half of all, and what is sold for less is less than half.
func TestHalf(t *testing.T) {
	r := rand.New(rand.NewPCG(8, 10))
	just, sure := 0, 0
	for _, s := range []size{small, dear, few, great} {
		for b := range books(400, s) {
			truth := pickTruth(r, b)
			known := exact(b, truth)
			for good := range b.Goods {
				verdict, cents := asked(t, known, good)
				all := gramsOf(truth, good, api.MaxCents+1)
				if cents.Lo != cents.Hi || (verdict == api.Sure) != (all > 0) || (verdict == api.Never) != (all == 0) {
					t.Fatal(known, good, verdict, cents, all)
				}
				if verdict == api.Never {
					continue
				}
				below, upTo := gramsOf(truth, good, cents.Lo), gramsOf(truth, good, cents.Lo+1)
				if 2*upTo < all || 2*below >= all {
					t.Fatal(known, good, cents, below, upTo, all)
				}
				sure++
				if 2*upTo == all {
					just++
				}
			}
		}
	}
	if sure < 1000 || just < 20 {
		t.Error("few prices:", sure, just)
	}
}
