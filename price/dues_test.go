package price_test

import (
	"math/rand/v2"
	"slices"
	"testing"

	"shambles/api"
	"shambles/price"
)

// P8.2: the examples of Turnover; fractions are rounded down sale by sale.
func TestTurnover(t *testing.T) {
	everything := ofOne()
	for range 40 {
		everything.Sales = append(everything.Sales, of(span(0, 100000), span(0, 100000)))
	}
	for i, k := range []struct {
		b     api.Book
		stall int
		want  api.Span
	}{
		{book(), 0, span(500, 950)},
		{book(), 1, span(1200, 2106)},
		{bookE(), 0, one(0)},
		{ofOne(), 0, one(0)},
		{changed(func(b *api.Book) { b.Stalls = 3 }), 2, one(0)},
		{ofOne(of(one(999), one(1))), 0, one(0)},
		{ofOne(of(one(1000), one(1))), 0, one(1)},
		{ofOne(of(one(1999), one(1))), 0, one(1)},
		{ofOne(of(one(999), one(1)), of(one(999), one(1))), 0, one(0)},
		{ofOne(of(one(1500), one(1)), of(one(1500), one(1))), 0, one(2)},
		{ofOne(of(span(999, 1000), one(1)), of(one(50), span(19, 20))), 0, span(0, 2)},
		{ofOne(of(span(0, 100), one(50)), of(one(0), one(100000)), of(one(100000), one(0))), 0, span(0, 5)},
		{everything, 0, span(0, 400000000)},
		{full(), 7, one(400000000)},
		{full(), 6, one(0)},
	} {
		if turnover, e := price.Turnover(k.b, k.stall); turnover != k.want || e != api.OK {
			t.Error(i, turnover, e)
		}
	}
}

// most is the greatest turnover of a stall for which there is a book of any turnover up to it.
const most = 389999999

// turning is a book of one stall with just this turnover, up to most, or 400,000,000.
func turning(turnover int) api.Book {
	const greatest = 10000000
	var sales []api.Sale
	for range turnover / greatest {
		sales = append(sales, of(one(100000), one(100000)))
	}
	if rest := turnover % greatest; rest > 0 {
		sales = append(sales, of(one(100000), one(rest/100)), of(one(1000), one(rest%100)))
	}
	return ofOne(sales...)
}

// P8.2: the examples of Dues, and turnovers at the beginning of a step; all is rounded down once.
func TestDues(t *testing.T) {
	s := steps(0, 100, 1000, 200)
	for i, k := range []struct {
		b     api.Book
		steps []api.Step
		want  []api.Span
	}{
		{book(), s, []api.Span{span(50, 95), span(140, 321)}},
		{book(), steps(0, 1000), []api.Span{span(500, 950), span(1200, 2106)}},
		{book(), steps(0, 0), []api.Span{one(0), one(0)}},
		{book(), steps(0, 0, 500, 1000, 950, 0), []api.Span{span(0, 450), one(450)}},
		{book(), steps(0, 1), []api.Span{one(0), span(1, 2)}},
		{book(), steps(0, 3, 1000, 5), []api.Span{span(1, 2), span(4, 8)}},
		{changed(func(b *api.Book) { b.Stalls = 3 }), s, []api.Span{span(50, 95), span(140, 321), one(0)}},
		{bookE(), s, []api.Span{one(0)}},
		{turning(9), s, []api.Span{one(0)}},
		{turning(10), s, []api.Span{one(1)}},
		{turning(1000), s, []api.Span{one(100)}},
		{turning(1004), s, []api.Span{one(100)}},
		{turning(1005), s, []api.Span{one(101)}},
		{turning(20), steps(0, 999), []api.Span{one(19)}},
		// 0.5 of each step; what is rounded is all of it.
		{turning(4), steps(0, 500, 1, 400, 2, 300, 3, 800), []api.Span{one(2)}},
		{turning(4), steps(0, 500, 1, 400, 2, 300, 3, 799), []api.Span{one(1)}},
		{turning(9999), steps(0, 100, 10000, 1000), []api.Span{one(999)}},
		{turning(10001), steps(0, 100, 10000, 1000), []api.Span{one(1001)}},
		{turning(400000000), steps(0, 1000), []api.Span{one(400000000)}},
		{turning(400000000), steps(0, 0, 399999999, 1000), []api.Span{one(1)}},
		{turning(400000000), steps(0, 1, 400000000, 1000, 1000000000, 0), []api.Span{one(400000)}},
		{turning(400000000), steps(0, 0, 1, 1000, 2, 0, 3, 1000, 4, 0), []api.Span{one(2)}},
	} {
		if dues, e := price.Dues(k.b, k.steps); !slices.Equal(dues, k.want) || e != api.OK {
			t.Error(i, dues, e)
		}
	}
}

// P8.5, P8.6: all that may truly be sold in books with few spans.
func TestAllTurnovers(t *testing.T) {
	r := rand.New(rand.NewPCG(8, 6))
	wide := 0
	for b := range books(300, dear) {
		list := pickSteps(r, 4000)
		table := duesUpTo(3*4000*3, list)
		turnovers, dues := make([]reached, b.Stalls), make([]reached, b.Stalls)
		for truth := range truths(b) {
			for stall := range turnovers {
				turnover := turnoverOf(truth, stall)
				turnovers[stall].meet(turnover, true)
				dues[stall].meet(table[turnover], true)
			}
		}
		told := owed(t, b, list)
		for stall := range turnovers {
			if turnover := turned(t, b, stall); turnover != turnovers[stall].span || told[stall] != dues[stall].span {
				t.Fatal(b, list, stall, turnover, turnovers[stall], told[stall], dues[stall])
			}
			if told[stall].Lo < told[stall].Hi {
				wide++
			}
		}
	}
	if wide < 100 {
		t.Error("few dues that are not known:", wide)
	}
}

// P8.5, P8.6: in great books no turnover, and no dues, are beyond the ends, and both ends are reached.
func TestGreatTurnovers(t *testing.T) {
	r := rand.New(rand.NewPCG(8, 16))
	for b := range books(300, great) {
		list := pickSteps(r, 40000000)
		dues := owed(t, b, list)
		// With the price -1 no sale is cheap.
		lightest, heaviest := exact(b, reaching(b, -1, lowest)), exact(b, reaching(b, -1, highest))
		low, high := owed(t, lightest, list), owed(t, heaviest, list)
		truth := pickTruth(r, b)
		known := owed(t, exact(b, truth), list)
		for stall := range b.Stalls {
			turnover := turned(t, b, stall)
			if turned(t, lightest, stall) != one(turnover.Lo) || turned(t, heaviest, stall) != one(turnover.Hi) || low[stall] != one(dues[stall].Lo) || high[stall] != one(dues[stall].Hi) {
				t.Fatal(b, list, stall, turnover, dues[stall])
			}
			if !within(one(turnoverOf(truth, stall)), turnover) || !within(known[stall], dues[stall]) || known[stall].Lo != known[stall].Hi {
				t.Fatal(b, list, stall, turnover, dues[stall], known[stall])
			}
		}
	}
}

// P8.9: turnovers of two books with the same stalls add up to that of both together.
func TestAddUp(t *testing.T) {
	r := rand.New(rand.NewPCG(8, 9))
	half := great
	half.sales = 20
	for b := range books(500, half) {
		c := pickBook(r, half)
		both := api.Book{Stalls: max(b.Stalls, c.Stalls), Goods: max(b.Goods, c.Goods), Sales: slices.Concat(b.Sales, c.Sales)}
		b.Stalls, c.Stalls = both.Stalls, both.Stalls
		for stall := range both.Stalls {
			x, y, z := turned(t, b, stall), turned(t, c, stall), turned(t, both, stall)
			if z != span(x.Lo+y.Lo, x.Hi+y.Hi) {
				t.Fatal(b, c, stall, x, y, z)
			}
		}
	}
}

// P8.9: dues grow with the turnover, and never by more.
func TestDuesGrow(t *testing.T) {
	r := rand.New(rand.NewPCG(8, 19))
	grown := 0
	for range 2000 {
		reach := []int{3, 100, 10000, most}[r.IntN(4)]
		list := pickSteps(r, 1+reach/3)
		a, b := r.IntN(reach+1), r.IntN(reach+1)
		if r.IntN(3) == 0 {
			b = min(a+1, reach)
		}
		a, b = min(a, b), max(a, b)
		less, more := owed(t, turning(a), list)[0], owed(t, turning(b), list)[0]
		if turned(t, turning(a), 0) != one(a) || turned(t, turning(b), 0) != one(b) || less.Lo != less.Hi || more.Lo != more.Hi {
			t.Fatal(a, b, less, more)
		}
		if growth := more.Lo - less.Lo; growth < 0 || growth > b-a {
			t.Fatal(list, a, b, less, more)
		}
		if less != more {
			grown++
		}
	}
	if grown < 1000 {
		t.Error("few dues grew:", grown)
	}
}

// P8.2: dues on great turnovers, where all cents of a step are taken at once, just as the chapter has it.
func TestGreatDues(t *testing.T) {
	r := rand.New(rand.NewPCG(8, 2))
	for range 1000 {
		list := pickSteps(r, 150000000)
		turnover := r.IntN(most + 1)
		if r.IntN(3) == 0 {
			turnover = min(most, list[len(list)-1].From+r.IntN(3))
		}
		// From the last step back, each one takes what is left above its beginning.
		left, thousandths := turnover, 0
		for _, s := range slices.Backward(list) {
			if left > s.From {
				thousandths += (left - s.From) * s.Share
				left = s.From
			}
		}
		if dues := owed(t, turning(turnover), list); dues[0] != one(thousandths/1000) {
			t.Fatal(list, turnover, dues, thousandths)
		}
	}
}
