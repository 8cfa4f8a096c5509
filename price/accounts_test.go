package price_test

import (
	"math/rand/v2"
	"slices"
	"strings"
	"testing"

	"shambles/api"
	"shambles/price"
)

// accountsE is the accounts of the book E of the chapter's examples.
const accountsE = "day 1 1\nsale 0 0 5 5 20 20\nend 1 4069\n"

// accounts is the accounts of the book B but for the seal.
const accounts = "day 2 2\nsale 0 0 1000 1000 500 500\nsale 1 0 2000 3000 600 700\n" +
	"sale 0 0 0 500 900 900\nsale 1 1 0 100 50 60\nend 4 "

// Rows that are right.
const (
	head = "day 1 1\n"
	sale = "sale 0 0 5 5 20 20\n"
	none = "end 0 6759\n"
	end  = "end 1 4069\n"
)

// numbers are all numbers of a book, in the order of its accounts.
func numbers(b *api.Book) []*int {
	all := []*int{&b.Stalls, &b.Goods}
	for i := range b.Sales {
		s := &b.Sales[i]
		all = append(all, &s.Stall, &s.Good, &s.Grams.Lo, &s.Grams.Hi, &s.Cents.Lo, &s.Cents.Hi)
	}
	return all
}

// sealOf is the seal of a book in another way: from the last number back, each one times a power.
func sealOf(b api.Book) int {
	sum, power := 0, 1
	for _, n := range slices.Backward(numbers(&b)) {
		sum += *n * power
		power = power * 31 % 9973
	}
	return (sum + 7*power) % 9973
}

// sealed returns the seal of Seal.
func sealed(t *testing.T, b api.Book) int {
	t.Helper()
	seal, e := price.Seal(b)
	if e != api.OK {
		t.Fatal(b, e)
	}
	return seal
}

// P8.3: the example of Seal, and books without sales.
func TestSeal(t *testing.T) {
	for i, k := range []struct {
		b    api.Book
		want int
	}{
		{bookE(), 4069},
		{ofOne(), 6759},
		{api.Book{Stalls: 8, Goods: 8}, 6983},
		{book(), 3734},
		{full(), 9037},
	} {
		if seal := sealed(t, k.b); seal != k.want {
			t.Error(i, seal)
		}
	}
	// The sales of B in another order have another seal.
	if seal := sealed(t, changed(func(b *api.Book) { slices.Reverse(b.Sales) })); seal == 3734 {
		t.Error(seal)
	}
	for b := range books(1000, great) {
		if seal := sealed(t, b); seal != sealOf(b) {
			t.Fatal(b, seal, sealOf(b))
		}
	}
}

// P8.11: if one number of a book is another one, and the difference is no multiple of PricePrime, the book has another seal.
func TestSealed(t *testing.T) {
	r := rand.New(rand.NewPCG(8, 11))
	others, alike := 0, 0
	hold := func(b api.Book) {
		t.Helper()
		c := copied(b)
		all := numbers(&c)
		n := all[r.IntN(len(all))]
		before := *n
		if *n = r.IntN(9); before > 8 {
			*n = before + 9973*(r.IntN(21)-10)
			*n += r.IntN(2) * r.IntN(9973)
		}
		if price.Check(c) != api.OK {
			return
		}
		equal := sealed(t, b) == sealed(t, c)
		if equal != ((before-*n)%9973 == 0) {
			t.Fatal(b, c, before, *n)
		}
		if equal && before != *n {
			alike++
		} else if !equal {
			others++
		}
	}
	for b := range books(20000, great) {
		hold(b)
	}
	for b := range books(5000, small) {
		hold(b)
	}
	if others < 5000 || alike < 1000 {
		t.Error("few books with another number:", others, alike)
	}
}

// P8.4: the example, there and back.
func TestAccounts(t *testing.T) {
	if s, e := price.Write(bookE()); s != accountsE || e != api.OK {
		t.Errorf("%q %v", s, e)
	}
	if b, row, e := price.Read(accountsE); !same(b, bookE()) || row != 0 || e != api.OK {
		t.Error(b, row, e)
	}
	s, e := price.Write(book())
	if seal, ok := strings.CutPrefix(s, accounts); !ok || e != api.OK || seal != "3734\n" {
		t.Errorf("%q %v", s, e)
	}
	if b, row, e := price.Read(s); !same(b, book()) || row != 0 || e != api.OK {
		t.Error(b, row, e)
	}
}

// P8.4: accounts that are as said.
func TestRight(t *testing.T) {
	everything := "day 8 8\n" + strings.Repeat("sale 7 7 100000 100000 100000 100000\n", 40) + "end 40 9037\n"
	for _, k := range []struct {
		text string
		b    api.Book
	}{
		{head + none, ofOne()},
		{"day 8 8\nend 0 6983\n", api.Book{Stalls: 8, Goods: 8}},
		{head + sale + end, bookE()},
		{everything, full()},
	} {
		if b, row, e := price.Read(k.text); !same(b, k.b) || row != 0 || e != api.OK {
			t.Errorf("%q: %v %d %v", k.text, b, row, e)
		}
		if s, e := price.Write(k.b); s != k.text || e != api.OK {
			t.Errorf("%q: %q %v", k.text, s, e)
		}
	}
}

// wrong holds that in each text just this row is the first one that is not as said.
func wrong(t *testing.T, row int, texts ...string) {
	t.Helper()
	for _, text := range texts {
		if b, got, e := price.Read(text); got != row || e != api.ErrForm || !empty(b) {
			t.Errorf("%q: %v %d %v", text, b, got, e)
		}
	}
}

// P8.4: rows come in their order, and there is an end, behind which nothing comes.
func TestRowOrder(t *testing.T) {
	wrong(t, 1, "", "\n", "x", "day 1 1", none, end, sale+end, "\n"+head+none, sale+head+end)
	wrong(t, 2, head, head+"\n", head+"x\n", head+head, head+head+none, head+end, head+"end 0 6759", head+"end 0 6759\r\n", head+strings.TrimSuffix(sale, "\n"))
	wrong(t, 3, head+sale, head+sale+"\n", head+sale+none, head+sale+"end 2 4069\n", head+sale+"end 1 4069", head+sale+head+end, head+none+none, head+none+"\n", head+none+" ", head+none+"x", head+none+sale, head+none+head)
	wrong(t, 4, head+sale+sale, head+sale+sale+end, head+sale+sale+"end 3 1\n", head+sale+sale+"day 1 1\nend 2 1\n", head+sale+end+end, head+sale+end+"\n", head+sale+end+sale, head+sale+end+"x")
}

// P8.4: each way in which the words of a row are not as said.
func TestWords(t *testing.T) {
	for _, row := range []string{
		"day", "day ", "day 1", "day 1 ", "day 1 1 ", "day 1 1 1", " day 1 1", "day  1 1", "day 1  1", "day\t1 1", "Day 1 1", "days 1 1", "da 1 1", "1 1", "", " ",
		"day 01 1", "day 1 01", "day -1 1", "day 1 -0", "day +1 1", "day 1 -", "day x 1", "day 1 1x", "day 1.0 1", "day 1 1\r",
		"day 1234567 1", "day 1 0000001", "day 1 99999999999999999999", "day 1 \u0661",
	} {
		wrong(t, 1, row+"\n"+none)
	}
	for _, row := range []string{
		"sale", "sale 0 0 5 5 20", "sale 0 0 5 5 20 ", "sale 0 0 5 5 20 20 ", "sale 0 0 5 5 20 20 0", " sale 0 0 5 5 20 20", "sale  0 0 5 5 20 20", "sale 0 0 5  5 20 20", "Sale 0 0 5 5 20 20", "sales 0 0 5 5 20 20", "sal 0 0 5 5 20 20", "0 0 5 5 20 20",
		"sale 00 0 5 5 20 20", "sale 0 00 5 5 20 20", "sale 0 0 05 5 20 20", "sale 0 0 5 05 20 20", "sale 0 0 5 5 020 20", "sale 0 0 5 5 20 020",
		"sale -0 0 5 5 20 20", "sale 0 -1 5 5 20 20", "sale 0 0 -5 5 20 20", "sale 0 0 5 +5 20 20", "sale 0 0 5 5 -20 20", "sale 0 0 5 5 20 -",
		"sale x 0 5 5 20 20", "sale 0 0 5 5 20 2o", "sale 0 0 5..5 20 20", "sale 0 0 5 1000000 20 20", "sale 0 0 5 5 20 1234567", "sale 0 0 5 5 20 20\r",
		"end", "end ", "end 0", "end 0 ", "end 0 6759 ", "end 0 6759 0", "end 00 6759", "end 0 06759", "end -0 6759", "end 0 -6759", "end 0 +6759", "end x 6759", "end 0 x", "end 0  6759", "End 0 6759", "ends 0 6759", "end 1 6759", "end 0 1006759", "en 0 6759",
	} {
		wrong(t, 2, head+row+"\n"+none, head+row+"\n"+sale+end)
	}
}

// P8.4: what is as said has the errors of its book, then that of its seal; a text that is too long is not looked at.
func TestReadErrors(t *testing.T) {
	many := func(sales, digits int, end string) string {
		return "day 1 1" + strings.Repeat("0", digits) + "\n" + strings.Repeat("sale 0 0 5 5 20 20\n", sales) + end
	}
	for _, k := range []struct {
		text string
		row  int
		e    api.Errno
	}{
		{head + "end 0 6758\n", 0, api.ErrSealed},
		{head + "end 0 0\n", 0, api.ErrSealed},
		{head + "end 0 16732\n", 0, api.ErrSealed},
		{head + "end 0 999999\n", 0, api.ErrSealed},
		{head + sale + "end 1 4068\n", 0, api.ErrSealed},
		{head + sale + "end 1 6759\n", 0, api.ErrSealed},
		{head + "sale 0 0 5 5 20 21\n" + end, 0, api.ErrSealed},
		{head + "sale 0 0 5 6 20 20\n" + end, 0, api.ErrSealed},
		{"day 2 1\n" + sale + end, 0, api.ErrSealed},
		{head + "sale 0 0 5 5 20 19\n" + end, 0, api.ErrOrder},
		{head + "sale 0 0 5 4 20 20\n" + end, 0, api.ErrOrder},
		{head + "sale 1 0 5 5 20 20\n" + end, 0, api.ErrMissing},
		{head + "sale 0 1 5 5 20 20\n" + end, 0, api.ErrMissing},
		{head + "sale 999999 0 5 5 20 20\n" + end, 0, api.ErrMissing},
		{head + "sale 0 0 5 100001 20 20\n" + end, 0, api.ErrRange},
		{head + "sale 0 0 5 5 20 999999\n" + end, 0, api.ErrRange},
		{"day 0 1\n" + none, 0, api.ErrRange},
		{"day 1 0\n" + none, 0, api.ErrRange},
		{"day 9 1\n" + none, 0, api.ErrRange},
		{"day 1 999999\n" + none, 0, api.ErrRange},
		{"day 0 0\n" + sale + none, 3, api.ErrForm},
		{many(41, 0, "end 41 1\n"), 0, api.ErrFull},
		{many(41, 0, "end 40 1\n"), 43, api.ErrForm},
		{many(157, 0, "end 157 1\n"), 0, api.ErrLong},
		{many(156, 3, "end 156 123456\n"), 0, api.ErrRange},
		{many(156, 5, "end 156 123456\n"), 0, api.ErrRange},
		{many(156, 5, "end 156 123456\nx"), 159, api.ErrForm},
		{many(156, 5, "end 156 123456\n"+strings.Repeat("x", 8)), 159, api.ErrForm},
		{many(156, 5, "end 156 123456\n"+strings.Repeat("x", 9)), 0, api.ErrLong},
		{strings.Repeat("x", 3000), 1, api.ErrForm},
		{strings.Repeat("x", 3001), 0, api.ErrLong},
		{accountsE + strings.Repeat("x", 3000), 0, api.ErrLong},
	} {
		if b, row, e := price.Read(k.text); row != k.row || e != k.e || !empty(b) {
			t.Errorf("%.60q (%d bytes): %v %d %v", k.text, len(k.text), b, row, e)
		}
	}
}

// P8.4, P8.13: accounts are read from their book.
func TestThereAndBack(t *testing.T) {
	there := func(b api.Book) {
		t.Helper()
		s, e := price.Write(b)
		if e != api.OK || len(s) > 3000 {
			t.Fatal(b, e)
		}
		if again, row, e := price.Read(s); !same(again, b) || row != 0 || e != api.OK {
			t.Fatal(b, again, row, e)
		}
	}
	there(full())
	for _, s := range []size{small, few, great} {
		for b := range books(1000, s) {
			there(b)
		}
	}
}

// P8.13: what is read is written as it was, whatever bytes of accounts are others, or are left out.
func TestBackAndThere(t *testing.T) {
	whole, _ := price.Write(book())
	read, broken := 0, 0
	for i := range whole {
		for _, bytes := range slices.Concat([]string{""}, strings.Split("0 1 2 3 4 5 6 7 8 9 - + x s", " "), []string{" ", "\n", "\r", "\x00"}) {
			for _, text := range []string{whole[:i] + bytes, whole[:i] + bytes + whole[i:], whole[:i] + bytes + whole[i+1:]} {
				b, row, e := price.Read(text)
				if e == api.ErrSealed {
					broken++
				}
				if e != api.OK {
					if !empty(b) || row > 0 && e != api.ErrForm {
						t.Fatalf("%q: %v %d %v", text, b, row, e)
					}
					continue
				}
				read++
				if s, f := price.Write(b); s != text || f != api.OK || row != 0 {
					t.Fatalf("%q: %q %d %v", text, s, row, f)
				}
				// No number was another one, then, if the seal is the same.
				if text != whole {
					t.Fatalf("%q has the seal of %q", text, whole)
				}
			}
		}
	}
	if read < len(whole)/2 || broken < 300 {
		t.Error("few accounts were read:", read, broken)
	}
}
