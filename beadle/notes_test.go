package beadle_test

import (
	"fmt"
	"slices"
	"testing"

	"shambles/api"
)

// P10.1: the examples of the chapter, and notes of each word with their errors in order.
func TestReplies(t *testing.T) {
	three := changed(letWith(func(l *api.Letting) { l.Applicants = l.Applicants[:3] }))
	nobodyWants := changed(letWith(func(l *api.Letting) { l.Applicants, l.Stalls[2].Heir = nil, nobody }))
	lateLot := changed(func(m *api.Market) {
		m.Lots = []api.Lot{{Born: 2, Keeps: 30, Stays: []api.Stay{{Box: 0, From: 2, To: 3}}}, {Born: 0, Keeps: 52, Stays: m.Lots[0].Stays}}
	})
	twoGoods := changed(func(m *api.Market) { m.Goods = 2 })
	stepped := changed(together(due(0, 100, 1000, 200), func(m *api.Market) { m.Goods = 8 }))
	for i, c := range []struct {
		m              api.Market
		notes, replies string
	}{
		{market(), "holders; let; let; holders; envies", "error 11; 3 1 2; error 11; 3 1 2; none"},
		{market(), "let; swap; envies", "3 1 2; 2 1 3; 0 0"},
		{market(), "ice 0; at 120; ice 0; fresh 0; at 480; serve 0; serve 0; at 540; fresh 0", "500 600; ok; 0 200; sure; ok; ok; error 4; ok; never"},
		{market(), "let; sold 1 0 1000 1000 500 500; sold 0 0 2000 3000 600 700; price 0; due 0; found 1 2500 650; price 0; due 0; seal", "3 1 2; ok; ok; sure 600 700; 120 210; ok; sure 650 650; 162 162; 3645"},
		{market(), "sold 0 0 1 1 1 1; sold 3 0 1 1 1 1; at 5 5; due 3; fresh 1; ice 1; found 0 1 1; price 1; swap", "error 11; error 3; error 2; error 3; error 3; error 3; error 3; error 3; error 11"},

		// Minutes, and the hours that begin with them.
		{market(), "at 0; at 0; at 7; at 6; at 7; at 1439; at 1439; at 1438; at 1440; at 0; at 999999", "ok; ok; ok; error 1; ok; ok; ok; error 1; error 1; error 1; error 1"},
		{market(), "at 59; ice 0; at 60; ice 0; at 119; ice 0; at 120; ice 0; at 240; ice 0; at 1439; ice 0", "ok; 500 600; ok; 250 400; ok; 250 400; ok; 0 200; ok; 300 300; ok; 0 0"},
		{market(), "at 539; fresh 0; at 540; fresh 0; serve 0", "ok; sure; ok; never; error 12"},
		{market(), "ice 0; ice 1; ice 999999; at 60; ice 0", "500 600; error 3; error 3; ok; 250 400"},

		// Holders.
		{market(), "envies; swap; holders; let; swap; swap; let; holders", "error 11; error 11; error 11; 3 1 2; 2 1 3; 2 1 3; error 11; 2 1 3"},
		{three, "let; sold 2 0 1 1 1 1; sold 1 0 1 1 1 1; swap; holders; envies; due 2", "2 1 -; error 11; ok; 2 1 -; 2 1 -; none; 0 0"},
		{nobodyWants, "holders; let; let; holders; swap; envies; sold 0 0 1 1 1 1", "error 11; - - -; error 11; - - -; - - -; none; error 11"},
		{full(), "let; envies; swap", "7 6 5 4 3 2 1 0; none; 7 6 5 4 3 2 1 0"},

		// Lots.
		{lateLot, "fresh 0; serve 0; at 119; fresh 0; at 120; fresh 0; at 240; fresh 0; serve 0; at 300; fresh 0; serve 0", "error 12; error 12; ok; error 12; ok; sure; ok; sure; ok; ok; never; error 4"},
		{lateLot, "fresh 2; serve 2; serve 1; at 480; fresh 1; serve 1; serve 0; at 540; fresh 1; serve 1", "error 3; error 3; ok; ok; open; error 4; error 12; ok; never; error 4"},
		{lateLot, "at 480; serve 1; at 420; at 539; serve 1; fresh 1; fresh 999999; serve 999999", "ok; error 12; error 1; ok; error 12; open; error 3; error 3"},

		// Sales: first the stall, then its holder, then the book.
		{market(), "sold 2 0 1 1 1 1; sold 3 9 2 1 2 1; sold 0 9 2 1 2 1; let; sold 0 9 2 1 2 1; sold 3 9 2 1 2 1; sold 999999 0 1 1 1 1", "error 11; error 3; error 11; 3 1 2; error 3; error 3; error 3"},
		{market(), "let; sold 0 1 1 1 1 1; sold 0 0 2 1 1 1; sold 0 0 1 100001 1 1; sold 0 0 1 100000 1 1; sold 0 0 2 1 100001 1; sold 0 0 1 1 2 1; sold 0 0 1 1 1 100001; sold 0 0 1 1 1 100000; seal", "3 1 2; error 3; error 5; error 1; ok; error 5; error 5; error 1; ok; 4433"},
		{twoGoods, "let; sold 2 1 0 0 0 0; price 1; price 0; price 2; sold 1 1 0 5 7 9; price 1; price 0", "3 1 2; ok; never 0 0; never 0 0; error 3; ok; open 7 9; never 0 0"},

		// Finds: first the sale, then whether it is found, then its spans.
		{market(), "found 0 1 1; let; found 0 1 1; sold 0 0 0 9 5 5; price 0; found 1 9 5; found 0 10 5; found 0 9 4; found 0 9 6; found 0 9 5; found 0 9 5; found 0 10 6; found 1 9 5; price 0; seal", "error 3; 3 1 2; error 3; ok; open 5 5; error 3; error 9; error 9; error 9; ok; error 4; error 4; error 3; sure 5 5; 6635"},
		{market(), "let; sold 0 0 0 9 5 5; found 0 0 5; price 0; sold 0 0 0 9 5 5; price 0; found 1 1 5; price 0", "3 1 2; ok; ok; never 0 0; ok; open 5 5; ok; sure 5 5"},

		// Dues and prices, before stalls are let too.
		{market(), "due 0; due 2; due 3; due 999999; price 0; price 1; price 999999; seal", "0 0; 0 0; error 3; error 3; never 0 0; error 3; error 3; 6821"},
		{stepped, "let; sold 1 7 500 3000 600 700; due 1; due 0; sold 1 0 1000 1000 1000 1000; due 1; found 0 500 600; due 1; price 7", "3 1 2; ok; 30 320; 0 0; ok; 160 520; ok; 160 160; sure 600 600"},
	} {
		got := replied(t, c.m, list(c.notes)...)
		for n, note := range list(c.notes) {
			if want := list(c.replies)[n]; got[n] != want {
				t.Errorf("%d: %s: %s, not %s", i, note, got[n], want)
			}
		}
	}
}

// P10.1: a note that is not as said is refused with ErrForm, and then nothing is changed.
func TestForms(t *testing.T) {
	m := changed(func(m *api.Market) { m.Goods = 8 })
	before := []string{"let", "sold 0 0 1 2 1 2", "at 7"}
	for _, note := range wrong {
		notes := slices.Concat(before, []string{note, "seal"})
		if got := replied(t, m, notes...); got[3] != "error 2" || got[4] != replied(t, m, "let", "sold 0 0 1 2 1 2", "seal")[2] {
			t.Errorf("%q: %q", note, got)
		}
		if d := kept(t, m, notes...); !same(d, kept(t, m, before...)) {
			t.Errorf("%q: %v", note, d)
		}
	}
	all := []string{"at 9", "let", "swap", "holders", "envies", "ice 0", "fresh 0", "serve 0", "sold 0 0 0 0 0 0", "found 0 0 0", "price 0", "due 0", "seal"}
	for i, reply := range replied(t, m, all...) {
		if refused(reply) {
			t.Error(all[i], reply)
		}
		// No word is one with a letter more, a letter less, or another number.
		for _, other := range []string{all[i] + " ", all[i] + " 0", all[i] + "x", " " + all[i], all[i][1:], "0" + all[i], all[i] + "\t"} {
			if got := replied(t, m, other)[0]; got != "error 2" {
				t.Errorf("%q: %s", other, got)
			}
		}
	}
}

// P10.1: numbers are of at most 6 digits; those that name nothing are not errors of the form.
func TestNumbers(t *testing.T) {
	for _, word := range []string{"at", "ice", "fresh", "serve", "price", "due"} {
		want := "error 3"
		if word == "at" {
			want = "error 1"
		}
		for _, number := range []int{9999, 10000, 99999, 100000, 999999} {
			if got := replied(t, market(), fmt.Sprint(word, " ", number))[0]; got != want {
				t.Error(word, number, got)
			}
		}
		for _, number := range []string{"1000000", "0999999", "010", "1e5"} {
			if got := replied(t, market(), word+" "+number)[0]; got != "error 2" {
				t.Error(word, number, got)
			}
		}
	}
	for place := range 9 {
		numbers := slices.Repeat([]any{"0"}, 9)
		numbers[place] = "00"
		sold, found := fmt.Sprintf("sold %s %s %s %s %s %s", numbers[:6]...), fmt.Sprintf("found %s %s %s", numbers[6:]...)
		got := replied(t, market(), "let", sold, "sold 0 0 0 0 0 0", found)
		if (got[1] == "error 2") != (place < 6) || (got[3] == "error 2") != (place >= 6) {
			t.Error(sold, found, got)
		}
	}
}

// P10.1: of more sales than there may be the next one is refused: after its stall and its holder are asked for, and before all else.
func TestFullBook(t *testing.T) {
	m := changed(letWith(func(l *api.Letting) { l.Applicants = l.Applicants[:3] }))
	notes := slices.Concat([]string{"let"}, slices.Repeat([]string{"sold 0 0 100000 100000 100000 100000"}, 40))
	more := []string{"sold 3 9 1 1 1 1", "sold 2 9 1 1 1 1", "sold 1 9 1 1 1 1", "sold 1 0 2 1 1 1", "sold 1 0 1 1 1 1", "due 0", "price 0", "found 40 1 1", "found 39 100000 100000"}
	got := replied(t, m, slices.Concat(notes, more)...)
	if slices.ContainsFunc(got[:41], refused) {
		t.Error(got)
	}
	if want := list("error 3; error 11; error 6; error 6; error 6; 40000000 40000000; sure 100000 100000; error 3; ok"); !slices.Equal(got[41:], want) {
		t.Error(got[41:])
	}
	if d := kept(t, m, notes...); len(d.Sales) != 40 || !same(d, kept(t, m, slices.Concat(notes, more[:8])...)) {
		t.Error(d)
	}
}

// P10.1: as many stalls, lots and boxes as there may be.
func TestFullMarket(t *testing.T) {
	m := full()
	got := replied(t, m, "let", "serve 19", "serve 20", "ice 5", "ice 6", "sold 7 7 1 1 1 1", "sold 7 8 1 1 1 1", "sold 8 7 1 1 1 1", "due 7", "price 7", "at 1439", "fresh 0", "serve 0")
	want := list("7 6 5 4 3 2 1 0; ok; error 3; 0 100000; error 3; ok; error 3; error 3; 0 0; sure 1 1; ok; sure; ok")
	if !slices.Equal(got, want) {
		t.Error(got)
	}
	rows := reported(t, m, "let", "serve 19")
	if len(rows) != 1+8+8+20+1 || rows[8] != "stall 7 0 0 0" || rows[16] != "good 7 never 0 0" || rows[36] != "lot 19 served" || rows[35] != "lot 18 sure" {
		t.Error(rows)
	}
}
