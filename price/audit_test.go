package price_test

import (
	"math/rand/v2"
	"slices"
	"strconv"
	"strings"
	"testing"

	"shambles/api"
	"shambles/price"
)

// pick returns the sales of Pick.
func pick(t *testing.T, b api.Book, number, many int) []int {
	t.Helper()
	picked, e := price.Pick(b, number, many)
	if e != api.OK || len(picked) != many {
		t.Fatal(b, number, many, picked, e)
	}
	return picked
}

// P8.3: the examples of Pick, and numbers that are used up.
func TestPick(t *testing.T) {
	twelve := ofOne(make([]api.Sale, 12)...)
	for i, k := range []struct {
		b            api.Book
		number, many int
		want         []int
	}{
		{book(), 11, 2, []int{3, 2}},
		{book(), 0, 3, []int{0, 1, 2}},
		{book(), 5, 0, nil},
		{book(), 3, 1, []int{3}},
		{book(), 4, 1, []int{0}},
		{book(), 4, 2, []int{0, 2}},
		{book(), 23, 4, []int{3, 2, 1, 0}},
		{book(), 24, 4, []int{0, 1, 2, 3}},
		{book(), 6, 4, []int{2, 1, 0, 3}},
		{book(), 12, 4, []int{0, 1, 3, 2}},
		{book(), 1000000000, 4, []int{0, 2, 3, 1}},
		{bookE(), 999999999, 1, []int{0}},
		{ofOne(), 7, 0, nil},
		{twelve, 0, 10, []int{0, 1, 2, 3, 4, 5, 6, 7, 8, 9}},
		{twelve, 11 + 12*(10+11*9), 10, []int{11, 10, 9, 0, 1, 2, 3, 4, 5, 6}},
	} {
		if picked, e := price.Pick(k.b, k.number, k.many); !slices.Equal(picked, k.want) || e != api.OK {
			t.Error(i, picked, e)
		}
	}
}

// P8.12: no sale is picked twice, and all that are picked are sales.
func TestPickedOnce(t *testing.T) {
	r := rand.New(rand.NewPCG(8, 12))
	for range 3000 {
		b := ofOne(make([]api.Sale, r.IntN(41))...)
		picked := pick(t, b, r.IntN(api.MaxToken+1), r.IntN(min(10, len(b.Sales))+1))
		slices.Sort(picked)
		if len(slices.Compact(slices.Clone(picked))) != len(picked) {
			t.Fatal(picked)
		}
		for _, sale := range picked {
			if sale < 0 || sale >= len(b.Sales) {
				t.Fatal(picked, len(b.Sales))
			}
		}
	}
}

// P8.12: with as many numbers, one after the other, as there are ways to pick, each way comes once.
func TestEachWay(t *testing.T) {
	r := rand.New(rand.NewPCG(8, 22))
	hold := func(sales, many int) {
		t.Helper()
		ways := 1
		for i := range many {
			ways *= sales - i
		}
		b := ofOne(make([]api.Sale, sales)...)
		for _, first := range []int{0, r.IntN(api.MaxToken - ways), api.MaxToken - ways + 1} {
			seen := map[string]bool{}
			for number := first; number < first+ways; number++ {
				var way strings.Builder
				for _, sale := range pick(t, b, number, many) {
					way.WriteString(" " + strconv.Itoa(sale))
				}
				seen[way.String()] = true
			}
			if len(seen) != ways {
				t.Fatal(sales, many, first, len(seen), ways)
			}
		}
	}
	for sales := range 7 {
		for many := range sales + 1 {
			hold(sales, many)
		}
	}
	hold(40, 1)
	hold(40, 2)
	hold(13, 4)
}

// P8.3: the examples of Audited; all else stays as it is.
func TestAudited(t *testing.T) {
	b, e := price.Audited(book(), finds(1, 2500, 650))
	want := changed(func(b *api.Book) { b.Sales[1].Grams, b.Sales[1].Cents = one(2500), one(650) })
	if e != api.OK || !same(b, want) {
		t.Error(b, e)
	}
	if verdict, cents := asked(t, b, 0); verdict != api.Sure || cents != one(650) {
		t.Error(verdict, cents)
	}
	b, e = price.Audited(book(), finds(3, 100, 50, 1, 3000, 600))
	want = changed(func(b *api.Book) {
		b.Sales[1].Grams, b.Sales[1].Cents = one(3000), one(600)
		b.Sales[3].Grams, b.Sales[3].Cents = one(100), one(50)
	})
	if e != api.OK || !same(b, want) {
		t.Error(b, e)
	}
	if b, e := price.Audited(book(), nil); e != api.OK || !same(b, book()) {
		t.Error(b, e)
	}
	if b, e := price.Audited(ofOne(), nil); e != api.OK || !same(b, ofOne()) {
		t.Error(b, e)
	}
	if b, e := price.Audited(book(), finds(1, 3001, 650)); e != api.ErrClash || !empty(b) {
		t.Error(b, e)
	}
}

// findsOf is what is found of some sales, in any order.
func findsOf(r *rand.Rand, truth []sold, many int) []api.Found {
	var list []api.Found
	for _, sale := range r.Perm(len(truth))[:many] {
		list = append(list, api.Found{Sale: sale, Grams: truth[sale].grams, Cents: truth[sale].cents})
	}
	return list
}

// P8.8: after an audit no price, turnover or dues are wider, and a verdict that is Sure or Never stays; if all sales are found, all are known exactly.
func TestFound(t *testing.T) {
	r := rand.New(rand.NewPCG(8, 8))
	narrower, settled := 0, 0
	for _, s := range []size{small, dear, few, great} {
		for b := range books(300, s) {
			truth := pickTruth(r, b)
			many := r.IntN(len(truth) + 1)
			c, e := price.Audited(b, findsOf(r, truth, many))
			whole, f := price.Audited(b, findsOf(r, truth, len(truth)))
			if e != api.OK || f != api.OK || !same(whole, exact(b, truth)) {
				t.Fatal(b, truth, c, whole, e, f)
			}
			list := pickSteps(r, 1000000)
			before, after, known := owed(t, b, list), owed(t, c, list), owed(t, whole, list)
			for stall := range b.Stalls {
				wide, now, last := turned(t, b, stall), turned(t, c, stall), turned(t, whole, stall)
				if !within(now, wide) || !within(last, now) || last != one(turnoverOf(truth, stall)) {
					t.Fatal(b, c, stall, wide, now, last)
				}
				if !within(after[stall], before[stall]) || !within(known[stall], after[stall]) || known[stall].Lo != known[stall].Hi {
					t.Fatal(b, c, stall, before, after, known)
				}
			}
			for good := range b.Goods {
				v, wide := asked(t, b, good)
				w, now := asked(t, c, good)
				if v != api.Open && w != v || w != api.Never && !within(now, wide) {
					t.Fatal(b, c, good, v, wide, w, now)
				}
				if v == api.Open && w != v {
					settled++
				}
				if now != wide {
					narrower++
				}
				cents, ok := dayPrice(truth, good)
				u, last := asked(t, whole, good)
				if ok && (u != api.Sure || last != one(cents)) || !ok && u != api.Never {
					t.Fatal(whole, good, u, last, cents, ok)
				}
			}
		}
	}
	if narrower < 300 || settled < 30 {
		t.Error("few audits that say more:", narrower, settled)
	}
}
