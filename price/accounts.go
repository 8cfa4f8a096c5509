package price

import (
	"cmp"
	"strings"

	"shambles/api"
	"shambles/bounds"
	"shambles/rows"
)

// maxDigits is how many digits a number of accounts has at most.
const maxDigits = 6

// tell tells the numbers of a book, row by row, as they stand in accounts.
func tell(b api.Book, row func(word string, numbers ...int)) {
	row("day", b.Stalls, b.Goods)
	for _, s := range b.Sales {
		row("sale", s.Stall, s.Good, s.Grams.Lo, s.Grams.Hi, s.Cents.Lo, s.Cents.Hi)
	}
}

// seal is what the numbers that were pressed on it make of it.
type seal struct{ value int }

func (s *seal) press(_ string, numbers ...int) {
	for _, n := range numbers {
		s.value = (s.value*api.PriceTimes + n) % api.PricePrime
	}
}

// sealOf returns the seal of a book.
func sealOf(b api.Book) int {
	s := seal{api.PriceStart}
	tell(b, s.press)
	return s.value
}

// Seal returns the seal of a book.
func Seal(b api.Book) (int, api.Errno) {
	if e := Check(b); e != api.OK {
		return 0, e
	}
	return sealOf(b), api.OK
}

// Write returns the accounts of a book.
func Write(b api.Book) (string, api.Errno) {
	if e := Check(b); e != api.OK {
		return "", e
	}
	var accounts strings.Builder
	row := func(word string, numbers ...int) { accounts.WriteString(rows.Row(word, numbers...)) }
	tell(b, row)
	row("end", len(b.Sales), sealOf(b))
	return accounts.String(), api.OK
}

// Read returns the book of accounts, or the number of the first row that is not as it has to be.
func Read(text string) (b api.Book, row int, e api.Errno) {
	var r reader
	check := func() api.Errno {
		return cmp.Or(Check(r.book), bounds.Unless(r.seal == sealOf(r.book), api.ErrSealed))
	}
	if row, e := rows.Read(text, api.MaxAccounts, r.take, check); e != api.OK {
		return api.Book{}, row, e
	}
	return r.book, 0, api.OK
}

// reader keeps what was read of accounts: the book, the seal, and whether the first row was read.
type reader struct {
	book  api.Book
	seal  int
	begun bool
}

// take keeps what the words of a row say, and says whether they are as they have to be.
func (r *reader) take(words []string) bool {
	numbers, ok := rows.All(words[1:], maxDigits, rows.Natural)
	// The first row is that of the day, and no other one is.
	if !ok || r.begun == (words[0] == "day") {
		return false
	}
	r.begun = true
	return r.keep(words[0], numbers)
}

// keep keeps the numbers of a row, and says whether they are as they have to be.
func (r *reader) keep(word string, n []int) bool {
	b := &r.book
	switch {
	case word == "day" && len(n) == 2:
		b.Stalls, b.Goods = n[0], n[1]
	case word == "sale" && len(n) == 6:
		grams, cents := api.Span{Lo: n[2], Hi: n[3]}, api.Span{Lo: n[4], Hi: n[5]}
		b.Sales = append(b.Sales, api.Sale{Stall: n[0], Good: n[1], Grams: grams, Cents: cents})
	case word == "end" && len(n) == 2:
		r.seal = n[1]
		return n[0] == len(b.Sales)
	default:
		return false
	}
	return true
}
