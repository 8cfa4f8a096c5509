package beadle_test

import (
	"fmt"
	"math/rand/v2"
	"slices"
	"strings"
	"testing"

	"shambles/api"
	"shambles/cold"
	"shambles/price"
	"shambles/stall"
	"shambles/swap"
)

// word returns the first word of a note.
func word(note string) string {
	first, _, _ := strings.Cut(note, " ")
	return first
}

// P10.1, P10.2, P10.3, P10.7: each reply is what the layer that is asked returns for what the beadle keeps.
func TestTold(t *testing.T) {
	taken, errors := map[string]int{}, map[string]int{}
	for m, notes := range markets(t, 600, 4, 36) {
		c := clerk{m: m}
		replies := replied(t, m, notes...)
		for i, note := range notes {
			want := c.do(note)
			if replies[i] != want {
				t.Fatalf("%v: %q: %s: %s, not %s", m, notes[:i], note, replies[i], want)
			}
			if d := kept(t, m, notes[:i+1]...); !same(d, c.d) {
				t.Fatal(m, notes[:i+1], d, c.d)
			}
			if refused(want) {
				errors[word(note)+strings.TrimPrefix(want, "error")]++
			} else {
				taken[word(note)]++
			}
		}
		if rows := reported(t, m, notes...); !slices.Equal(rows, c.report()) {
			t.Fatal(m, notes, rows, c.report())
		}
	}
	for _, w := range []string{"at", "let", "swap", "holders", "envies", "ice", "fresh", "serve", "sold", "found", "price", "due", "seal"} {
		if taken[w] < 50 {
			t.Error("few of", w, taken)
		}
	}
	for _, w := range []string{"at 1", "let 11", "swap 11", "holders 11", "envies 11", "ice 3", "fresh 3", "fresh 12", "serve 3", "serve 4", "serve 12", "sold 3", "sold 11", "sold 5", "found 3", "found 4", "found 9", "price 3", "due 3"} {
		if errors[w] < 10 {
			t.Error("few of", w, errors)
		}
	}
}

// P10.4: the replies to the first notes do not depend on the notes after them; without notes that are refused the desk, the report and all other replies are the same.
func TestReplayed(t *testing.T) {
	without := 0
	for m, notes := range markets(t, 500, 4, 40) {
		replies := replied(t, m, notes...)
		for n := range notes {
			if first := replied(t, m, notes[:n]...); !slices.Equal(first, replies[:n]) {
				t.Fatal(m, notes, n, first, replies)
			}
		}
		var left, want []string
		for i, reply := range replies {
			if !refused(reply) {
				left, want = append(left, notes[i]), append(want, reply)
			}
		}
		if got := replied(t, m, left...); !slices.Equal(got, want) {
			t.Fatal(m, notes, left, got, want)
		}
		if !same(kept(t, m, left...), kept(t, m, notes...)) || !slices.Equal(reported(t, m, left...), reported(t, m, notes...)) {
			t.Fatal(m, notes, left)
		}
		without += len(notes) - len(left)
	}
	if without < 1000 {
		t.Error("few notes are refused:", without)
	}
}

// holderTurns returns the trade of holders, and the turns that they hold.
func holderTurns(t *testing.T, m api.Market, holders []int) (api.Trade, []api.Turn) {
	t.Helper()
	trade, _, e := swap.From(m.Letting, holders, m.Day)
	if e != api.OK {
		t.Fatal(m, holders, e)
	}
	return trade, trade.Owns
}

// P10.5: whatever is noted, the holders are valid, nobody has two stalls, stalls are let once, and after a swap no ring pleases.
func TestOneHolder(t *testing.T) {
	swaps := 0
	for m, notes := range markets(t, 600, 5, 24) {
		let := 0
		for i, reply := range replied(t, m, notes...) {
			before, d := kept(t, m, notes[:i]...), kept(t, m, notes[:i+1]...)
			w := word(notes[i])
			if w == "let" && !refused(reply) {
				let++
			}
			if (len(d.Holders) > 0) != (let > 0) || let > 1 {
				t.Fatal(m, notes, d)
			}
			if w != "let" && w != "swap" && !slices.Equal(before.Holders, d.Holders) {
				t.Fatal(m, notes, i, before, d)
			}
			if let == 0 {
				continue
			}
			if e := stall.CheckHolders(m.Letting, d.Holders); e != api.OK {
				t.Fatal(m, notes, d, e)
			}
			has := map[int]bool{}
			for _, holder := range d.Holders {
				if holder != nobody && has[holder] {
					t.Fatal(m, notes, d)
				}
				has[holder] = true
			}
			if w != "swap" {
				continue
			}
			trade, held := holderTurns(t, m, d.Holders)
			if ring, e := swap.Pleases(trade, held); e != api.OK || ring != nil {
				t.Fatal(m, notes, d, ring, e)
			}
			if !slices.Equal(before.Holders, d.Holders) {
				swaps++
			}
		}
	}
	if swaps < 20 {
		t.Error("few swaps:", swaps)
	}
}

// P10.6: no lot is served twice, nor at an hour at which it is not surely fresh; nothing else keeps it from being served.
func TestInTime(t *testing.T) {
	served, late := 0, 0
	for m, notes := range markets(t, 800, 2, 40) {
		var lots []int
		minute := 0
		for i, reply := range replied(t, m, notes...) {
			var w string
			var n int
			fmt.Sscan(notes[i], &w, &n)
			if w == "at" && reply == "ok" {
				minute = n
			}
			if w != "serve" || n >= len(m.Lots) || reply == "error 2" {
				continue
			}
			last, e := cold.Last(m.Cellar, m.Lots[n])
			fresh := m.Lots[n].Born <= minute/60 && minute/60 <= last
			if e != api.OK || (reply == "ok") != (fresh && !slices.Contains(lots, n)) {
				t.Fatal(m, notes, i, reply, last, e)
			}
			if reply == "ok" {
				lots = append(lots, n)
				served++
			} else if !fresh {
				late++
			}
		}
		if d := kept(t, m, notes...); !slices.Equal(d.Served, lots) || d.Minute != minute {
			t.Fatal(m, notes, d, lots, minute)
		}
	}
	if served < 200 || late < 200 {
		t.Error("few lots:", served, late)
	}
}

// P10.8: after the same sales the prices and dues are the same, in whatever order they come.
func TestPrices(t *testing.T) {
	r := rand.New(rand.NewPCG(10, 8))
	priced := 0
	for range 300 {
		m := pickMarket(t, r, 4)
		var sold, found []string
		for len(sold) < 12 {
			if note := pickNote(r, m); word(note) == "sold" {
				sold = append(sold, note)
			}
		}
		for range 12 {
			found = append(found, fmt.Sprintf("found %d %d %d", r.IntN(12), 1000*r.IntN(3), 500*r.IntN(3)))
		}
		first := slices.Concat([]string{"let"}, sold, found)
		sold, found = taken(t, m, first, "sold"), taken(t, m, first, "found")
		want := reported(t, m, slices.Concat([]string{"let"}, sold, found)...)
		for range 4 {
			order := r.Perm(len(sold))
			mixed := []string{"let"}
			for _, sale := range order {
				mixed = append(mixed, sold[sale])
			}
			for _, i := range r.Perm(len(found)) {
				var n [3]int
				fmt.Sscanf(found[i], "found %d %d %d", &n[0], &n[1], &n[2])
				mixed = append(mixed, fmt.Sprintf("found %d %d %d", slices.Index(order, n[0]), n[1], n[2]))
			}
			if got := reported(t, m, mixed...); !slices.Equal(got, want) {
				t.Fatal(m, mixed, got, want)
			}
		}
		priced += len(found)
	}
	if priced < 300 {
		t.Error("few finds:", priced)
	}
}

// taken returns the notes with a word that are not refused.
func taken(t *testing.T, m api.Market, notes []string, first string) []string {
	t.Helper()
	var left []string
	for i, reply := range replied(t, m, notes...) {
		if word(notes[i]) == first && !refused(reply) {
			left = append(left, notes[i])
		}
	}
	return left
}

// P10.8: sales among which prices and dues are asked for may come in any order, too.
func TestPricesBetween(t *testing.T) {
	a, b, c := "sold 0 0 1000 2000 500 600", "sold 1 0 0 3000 400 900", "sold 2 0 1500 1500 700 700"
	want := replied(t, market(), "let", a, b, c, "price 0", "due 0", "due 1", "due 2")[4:]
	for _, order := range [][]string{{a, c, b}, {b, a, c}, {b, c, a}, {c, a, b}, {c, b, a}} {
		notes := []string{"let"}
		for _, note := range order {
			notes = append(notes, "price 0", note, "due 0", "seal", "swap")
		}
		notes = append(notes, "price 0", "due 0", "due 1", "due 2")
		if got := replied(t, market(), notes...)[len(notes)-4:]; !slices.Equal(got, want) {
			t.Error(order, got, want)
		}
	}
}

// starts says whether a list starts with another one.
func starts[T comparable](list, with []T) bool {
	return len(list) >= len(with) && slices.Equal(list[:len(with)], with)
}

// P10.9: minutes never go back; sales, finds and served lots are only added, one at a time, each by its own note.
func TestOn(t *testing.T) {
	for m, notes := range markets(t, 300, 4, 40) {
		before := kept(t, m)
		if !same(before, api.Desk{}) {
			t.Fatal(m, before)
		}
		for i, reply := range replied(t, m, notes...) {
			d := kept(t, m, notes[:i+1]...)
			if d.Minute < before.Minute || !starts(d.Sales, before.Sales) || !starts(d.Finds, before.Finds) || !starts(d.Served, before.Served) {
				t.Fatal(m, notes, i, before, d)
			}
			more := map[string]int{
				"sold":  len(d.Sales) - len(before.Sales),
				"found": len(d.Finds) - len(before.Finds),
				"serve": len(d.Served) - len(before.Served),
			}
			for w, n := range more {
				want := 0
				if w == word(notes[i]) && reply == "ok" {
					want = 1
				}
				if n != want {
					t.Fatal(m, notes, i, reply, w, n)
				}
			}
			if refused(reply) && !same(d, before) {
				t.Fatal(m, notes, i, before, d)
			}
			before = d
		}
	}
}

// P10.7: the book that is sealed is that of the sales, whatever was found; prices and dues are those of the audited book.
func TestAudited(t *testing.T) {
	found := 0
	for m, notes := range markets(t, 600, 3, 50) {
		d := kept(t, m, notes...)
		b := api.Book{Stalls: len(m.Letting.Stalls), Goods: m.Goods, Sales: d.Sales}
		seal, e := price.Seal(b)
		audited, f := price.Audited(b, d.Finds)
		dues, g := price.Dues(audited, m.Steps)
		verdict, cents, h := price.Price(audited, 0)
		if e != api.OK || f != api.OK || g != api.OK || h != api.OK {
			t.Fatal(m, d, e, f, g, h)
		}
		want := []string{fmt.Sprint(seal), fmt.Sprint(dues[0].Lo, dues[0].Hi), fmt.Sprint(verdictText(verdict), " ", cents.Lo, " ", cents.Hi)}
		if got := replied(t, m, slices.Concat(notes, []string{"seal", "due 0", "price 0"})...)[len(notes):]; !slices.Equal(got, want) {
			t.Fatal(m, notes, got, want)
		}
		found += len(d.Finds)
	}
	if found < 100 {
		t.Error("few finds:", found)
	}
}
