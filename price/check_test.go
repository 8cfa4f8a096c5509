package price_test

import (
	"math"
	"math/rand/v2"
	"slices"
	"testing"

	"shambles/api"
	"shambles/price"
)

type checkCase struct {
	name   string
	change func(b *api.Book)
	want   api.Errno
}

// last is a change of the last sale.
func last(change func(s *api.Sale)) func(b *api.Book) {
	return func(b *api.Book) { change(&b.Sales[len(b.Sales)-1]) }
}

// sells is the change of stall and good of the last sale.
func sells(stall, good int) func(b *api.Book) {
	return last(func(s *api.Sale) { s.Stall, s.Good = stall, good })
}

// weighs is the change of the grams of the last sale.
func weighs(low, high int) func(b *api.Book) {
	return last(func(s *api.Sale) { s.Grams = span(low, high) })
}

// costs is the change of the cents of the last sale.
func costs(low, high int) func(b *api.Book) {
	return last(func(s *api.Sale) { s.Cents = span(low, high) })
}

// P8.1: each error of a book, from both sides of each bound.
func TestCheck(t *testing.T) {
	run(t, []checkCase{
		{"B", func(b *api.Book) {}, api.OK},
		{"E", func(b *api.Book) { *b = bookE() }, api.OK},
		{"full", func(b *api.Book) { *b = full() }, api.OK},
		{"nothing", func(b *api.Book) { *b = api.Book{} }, api.ErrRange},
		{"no sales", func(b *api.Book) { b.Sales = nil }, api.OK},
		{"one stall, one good, no sales", func(b *api.Book) { *b = ofOne() }, api.OK},
		{"no stalls", func(b *api.Book) { b.Stalls = 0 }, api.ErrRange},
		{"stalls below 0", func(b *api.Book) { b.Stalls = math.MinInt }, api.ErrRange},
		{"8 stalls", func(b *api.Book) { b.Stalls = 8 }, api.OK},
		{"9 stalls", func(b *api.Book) { b.Stalls = 9 }, api.ErrRange},
		{"no goods", func(b *api.Book) { b.Goods = 0 }, api.ErrRange},
		{"goods below 0", func(b *api.Book) { b.Goods = -1 }, api.ErrRange},
		{"8 goods", func(b *api.Book) { b.Goods = 8 }, api.OK},
		{"9 goods", func(b *api.Book) { b.Goods = 9 }, api.ErrRange},
		{"40 sales", func(b *api.Book) { b.Sales = make([]api.Sale, 40) }, api.OK},
		{"41 sales", func(b *api.Book) { b.Sales = make([]api.Sale, 41) }, api.ErrFull},
		{"the last stall", sells(1, 1), api.OK},
		{"no such stall", sells(2, 1), api.ErrMissing},
		{"a stall below 0", sells(-1, 1), api.ErrMissing},
		{"a stall far off", sells(math.MaxInt, 1), api.ErrMissing},
		{"no such good", sells(1, 2), api.ErrMissing},
		{"a good below 0", sells(1, -1), api.ErrMissing},
		{"a good far below 0", sells(1, math.MinInt), api.ErrMissing},
		{"one stall fewer", func(b *api.Book) { b.Stalls = 1 }, api.ErrMissing},
		{"one good fewer", func(b *api.Book) { b.Goods = 1 }, api.ErrMissing},
		{"no grams", weighs(0, 0), api.OK},
		{"grams below 0", weighs(-1, 0), api.ErrRange},
		{"most grams", weighs(100000, 100000), api.OK},
		{"any grams", weighs(0, 100000), api.OK},
		{"too many grams", weighs(0, 100001), api.ErrRange},
		{"too many grams at least", weighs(100001, 100001), api.ErrRange},
		{"grams below 0 at most", weighs(0, -1), api.ErrRange},
		{"grams turned", weighs(2, 1), api.ErrOrder},
		{"no cents", costs(0, 0), api.OK},
		{"cents below 0", costs(-1, 60), api.ErrRange},
		{"most cents", costs(100000, 100000), api.OK},
		{"any cents", costs(0, 100000), api.OK},
		{"too many cents", costs(50, 100001), api.ErrRange},
		{"too many cents at least", costs(math.MaxInt, 60), api.ErrRange},
		{"cents below 0 at most", costs(50, math.MinInt), api.ErrRange},
		{"cents turned", costs(60, 50), api.ErrOrder},
	})
}

// P8.1, R1: of two errors the one is told that the chapter names first.
func TestCheckOrder(t *testing.T) {
	run(t, []checkCase{
		{"stalls and goods, then the number of sales", func(b *api.Book) { b.Goods, b.Sales = 9, make([]api.Sale, 41) }, api.ErrRange},
		{"stalls, then the number of sales", func(b *api.Book) { b.Stalls, b.Sales = 0, make([]api.Sale, 41) }, api.ErrRange},
		{"goods, then sales", func(b *api.Book) { b.Goods, b.Sales[0].Stall = 0, 9 }, api.ErrRange},
		{"number of sales first", func(b *api.Book) { b.Sales = slices.Repeat([]api.Sale{{Stall: 9}}, 41) }, api.ErrFull},
		{"stall, then grams", last(func(s *api.Sale) { s.Stall, s.Grams = 2, span(-1, 0) }), api.ErrMissing},
		{"good, then grams", last(func(s *api.Sale) { s.Good, s.Grams = -1, span(2, 1) }), api.ErrMissing},
		{"good, then cents", last(func(s *api.Sale) { s.Good, s.Cents = 2, span(0, 100001) }), api.ErrMissing},
		{"grams, then their order", weighs(5, -1), api.ErrRange},
		{"the order of grams, then cents", last(func(s *api.Sale) { s.Grams, s.Cents = span(2, 1), span(-1, 0) }), api.ErrOrder},
		{"grams, then the order of cents", last(func(s *api.Sale) { s.Grams, s.Cents = span(-1, 1), span(2, 1) }), api.ErrRange},
		{"cents, then their order", costs(100001, 5), api.ErrRange},
		{"sale by sale", func(b *api.Book) { b.Sales[2].Cents, b.Sales[3].Stall = span(2, 1), 9 }, api.ErrOrder},
		{"sale by sale, turned", func(b *api.Book) { b.Sales[2].Good, b.Sales[3].Grams = 9, span(-1, 1) }, api.ErrMissing},
	})
}

// run holds Check, and all that return its error, against what is wanted; all other arguments are wrong, but this comes later.
func run(t *testing.T, cases []checkCase) {
	t.Helper()
	for _, k := range cases {
		b := changed(k.change)
		verdict, cents, a := price.Price(b, 9)
		turnover, c := price.Turnover(b, 9)
		dues, d := price.Dues(b, nil)
		picked, f := price.Pick(b, -1, -1)
		audited, g := price.Audited(b, make([]api.Found, 41))
		got := []api.Errno{price.Check(b), a, c, d, f, g}
		want := slices.Repeat([]api.Errno{k.want}, 6)
		if k.want == api.OK {
			want = []api.Errno{api.OK, api.ErrMissing, api.ErrMissing, api.ErrShort, api.ErrRange, api.ErrFull}
		}
		if !slices.Equal(got, want) || verdict != 0 || cents != span(0, 0) || turnover != span(0, 0) || dues != nil || picked != nil || !empty(audited) {
			t.Errorf("%s: %v, want %v", k.name, got, want)
		}
		seal, h := price.Seal(b)
		text, i := price.Write(b)
		if h != k.want || i != k.want || k.want != api.OK && (seal != 0 || text != "") {
			t.Errorf("%s: %d %v %q %v, want %v", k.name, seal, h, text, i, k.want)
		}
	}
}

// P8.1, P8.2: the errors of goods and stalls.
func TestNumberErrors(t *testing.T) {
	b := changed(func(b *api.Book) { b.Stalls, b.Goods = 3, 2 })
	for n, want := range map[int][2]api.Errno{
		0:           {api.OK, api.OK},
		1:           {api.OK, api.OK},
		2:           {api.ErrMissing, api.OK},
		3:           {api.ErrMissing, api.ErrMissing},
		-1:          {api.ErrMissing, api.ErrMissing},
		math.MaxInt: {api.ErrMissing, api.ErrMissing},
		math.MinInt: {api.ErrMissing, api.ErrMissing},
	} {
		verdict, cents, e := price.Price(b, n)
		if e != want[0] || e != api.OK && (verdict != 0 || cents != span(0, 0)) {
			t.Error(n, verdict, cents, e)
		}
		if turnover, e := price.Turnover(b, n); e != want[1] || e != api.OK && turnover != span(0, 0) {
			t.Error(n, turnover, e)
		}
	}
}

// steps are steps of from and share.
func steps(numbers ...int) []api.Step {
	var list []api.Step
	for pair := range slices.Chunk(numbers, 2) {
		list = append(list, api.Step{From: pair[0], Share: pair[1]})
	}
	return list
}

// P8.2, R1: the errors of steps, in their order.
func TestStepErrors(t *testing.T) {
	for i, k := range []struct {
		steps []api.Step
		want  api.Errno
	}{
		{steps(0, 0), api.OK},
		{steps(0, 1000), api.OK},
		{steps(0, 5, 1, 4, 2, 3, 3, 2, 1000000000, 1), api.OK},
		{nil, api.ErrShort},
		{[]api.Step{}, api.ErrShort},
		{steps(0, 0, 1, 0, 2, 0, 3, 0, 4, 0, 5, 0), api.ErrFull},
		{slices.Repeat(steps(-1, -1), 6), api.ErrFull},
		{steps(-1, 0), api.ErrRange},
		{steps(math.MinInt, 0), api.ErrRange},
		{steps(1000000001, 0), api.ErrRange},
		{steps(0, -1), api.ErrRange},
		{steps(0, 1001), api.ErrRange},
		{steps(0, math.MaxInt), api.ErrRange},
		{steps(1, 0), api.ErrForm},
		{steps(1000000000, 0), api.ErrForm},
		{steps(1, 1001), api.ErrRange},
		{steps(1, 0, -1, 0), api.ErrForm},
		{steps(1, 0, 1, 0), api.ErrForm},
		{steps(0, 0, 0, 0), api.ErrOrder},
		{steps(0, 0, 5, 0, 5, 0), api.ErrOrder},
		{steps(0, 0, 5, 0, 4, 0), api.ErrOrder},
		{steps(0, 0, 5, 0, 0, 0), api.ErrOrder},
		{steps(0, 0, 1000000001, 0), api.ErrRange},
		{steps(0, 0, 0, 1001), api.ErrRange},
		{steps(0, 0, 5, 0, -1, 0), api.ErrRange},
		{steps(0, 0, 0, 0, -1, 0), api.ErrOrder},
		{steps(0, 0, 5, 1001, 4, 0), api.ErrRange},
	} {
		dues, e := price.Dues(book(), k.steps)
		if e != k.want || e == api.OK && len(dues) != 2 || e != api.OK && dues != nil {
			t.Error(i, dues, e, k.want)
		}
	}
}

// P8.3, R1: the errors of Pick.
func TestPickErrors(t *testing.T) {
	many := func(sales int) api.Book {
		return changed(func(b *api.Book) { b.Sales = make([]api.Sale, sales) })
	}
	for i, k := range []struct {
		b            api.Book
		number, many int
		want         api.Errno
	}{
		{book(), 0, 0, api.OK},
		{book(), 0, 4, api.OK},
		{book(), 0, 5, api.ErrRange},
		{book(), 0, -1, api.ErrRange},
		{book(), -1, 0, api.ErrRange},
		{book(), math.MinInt, 1, api.ErrRange},
		{book(), 1000000000, 4, api.OK},
		{book(), 1000000001, 4, api.ErrRange},
		{book(), math.MaxInt, 0, api.ErrRange},
		{book(), 0, math.MaxInt, api.ErrRange},
		{book(), 0, math.MinInt, api.ErrRange},
		{many(0), 0, 0, api.OK},
		{many(0), 5, 0, api.OK},
		{many(0), 0, 1, api.ErrRange},
		{many(10), 0, 10, api.OK},
		{many(11), 0, 10, api.OK},
		{many(11), 0, 11, api.ErrRange},
		{many(40), 0, 11, api.ErrRange},
		{many(40), 1000000000, 10, api.OK},
	} {
		picked, e := price.Pick(k.b, k.number, k.many)
		if e != k.want || e == api.OK && len(picked) != k.many || e != api.OK && picked != nil {
			t.Error(i, picked, e, k.want)
		}
	}
}

// finds are finds of sale, grams and cents.
func finds(numbers ...int) []api.Found {
	var list []api.Found
	for three := range slices.Chunk(numbers, 3) {
		list = append(list, api.Found{Sale: three[0], Grams: three[1], Cents: three[2]})
	}
	return list
}

// P8.3, R1: the errors of finds, in their order.
func TestFindErrors(t *testing.T) {
	for i, k := range []struct {
		finds []api.Found
		want  api.Errno
	}{
		{nil, api.OK},
		{finds(0, 1000, 500), api.OK},
		{finds(1, 2000, 600), api.OK},
		{finds(1, 3000, 700), api.OK},
		{finds(3, 0, 50, 2, 500, 900, 1, 2500, 650, 0, 1000, 500), api.OK},
		{make([]api.Found, 41), api.ErrFull},
		{slices.Repeat(finds(9, 0, 0), 41), api.ErrFull},
		{finds(4, 0, 0), api.ErrMissing},
		{finds(-1, 0, 0), api.ErrMissing},
		{finds(math.MaxInt, 0, 0), api.ErrMissing},
		{finds(math.MinInt, 0, 0), api.ErrMissing},
		{finds(1, 1999, 650), api.ErrClash},
		{finds(1, 3001, 650), api.ErrClash},
		{finds(1, 2500, 599), api.ErrClash},
		{finds(1, 2500, 701), api.ErrClash},
		{finds(1, math.MinInt, math.MaxInt), api.ErrClash},
		{finds(0, 999, 500), api.ErrClash},
		{finds(0, 1000, 501), api.ErrClash},
		{finds(2, -1, 900), api.ErrClash},
		{finds(1, 2500, 650, 1, 2500, 650), api.ErrExists},
		{finds(1, 2500, 650, 1, 2501, 651), api.ErrExists},
		{finds(1, 2500, 650, 1, 3001, 650), api.ErrExists},
		{finds(1, 2500, 650, 0, 1000, 500, 1, 0, 0), api.ErrExists},
		{finds(1, 3001, 650, 9, 0, 0), api.ErrClash},
		{finds(9, 0, 0, 1, 3001, 650), api.ErrMissing},
		{finds(1, 2500, 650, 9, 0, 0, 1, 2500, 650), api.ErrMissing},
		{finds(1, 2500, 650, 1, 2500, 650, 9, 0, 0), api.ErrExists},
		{finds(9, 0, 0, 9, 0, 0), api.ErrMissing},
	} {
		b, e := price.Audited(book(), k.finds)
		if e != k.want || e == api.OK && len(b.Sales) != 4 || e != api.OK && !empty(b) {
			t.Error(i, b, e, k.want)
		}
	}
	all := finds()
	for sale := range 40 {
		all = append(all, api.Found{Sale: sale, Grams: 100000, Cents: 100000})
	}
	if b, e := price.Audited(full(), all); e != api.OK || !same(b, full()) {
		t.Error(b, e)
	}
}

// P1: no argument makes a function panic.
func TestAnyArguments(t *testing.T) {
	r := rand.New(rand.NewPCG(1, 8))
	odd := []int{math.MinInt, -1, 0, 1, 2, 3, 7, 8, 9, 40, 1000, 1001, 100000, 100001, 1000000000, 1000000001, math.MaxInt}
	pick := func() int { return odd[r.IntN(len(odd))] }
	for range 10000 {
		b := pickBook(r, great)
		switch r.IntN(4) {
		case 0:
			b.Stalls, b.Goods = pick(), pick()
		case 1:
			b.Sales = append(b.Sales, api.Sale{Stall: pick(), Good: pick(), Grams: span(pick(), pick()), Cents: span(pick(), pick())})
		case 2:
			b.Stalls, b.Sales = pick(), nil
		}
		price.Price(b, pick())
		price.Turnover(b, pick())
		price.Dues(b, steps(0, pick(), pick(), pick())[r.IntN(2):])
		price.Pick(b, pick(), pick())
		price.Audited(b, finds(pick(), pick(), pick(), pick(), pick(), pick())[r.IntN(2):])
		_, e := price.Seal(b)
		if _, f := price.Write(b); e != price.Check(b) || f != e {
			t.Fatal(b, e, f)
		}
	}
}

// R4: arguments stay as they are, and results share no memory.
func TestMemory(t *testing.T) {
	b, s, f := book(), steps(0, 100, 1000, 200), finds(1, 2500, 650)
	text, _ := price.Write(b)
	want := changed(func(b *api.Book) { b.Sales[1].Grams, b.Sales[1].Cents = one(2500), one(650) })
	for range 2 {
		dues, _ := price.Dues(b, s)
		picked, _ := price.Pick(b, 11, 2)
		audited, _ := price.Audited(b, f)
		as, _ := price.Audited(b, nil)
		read, _, _ := price.Read(text)
		price.Price(b, 0)
		price.Turnover(b, 1)
		if !slices.Equal(dues, []api.Span{span(50, 95), span(140, 321)}) || !slices.Equal(picked, []int{3, 2}) || !same(audited, want) || !same(as, book()) || !same(read, book()) {
			t.Error(dues, picked, audited, as, read)
		}
		clear(dues)
		clear(picked)
		clear(audited.Sales)
		clear(as.Sales)
		clear(read.Sales)
	}
	if !same(b, book()) || !slices.Equal(s, steps(0, 100, 1000, 200)) || !slices.Equal(f, finds(1, 2500, 650)) {
		t.Error(b, s, f)
	}
}
