package beadle_test

import (
	"iter"
	"slices"
	"testing"

	"shambles/api"
	"shambles/stall"
)

// fairHolders hands out all fair holders of a letting.
func fairHolders(l api.Letting) iter.Seq[[]int] {
	return func(yield func([]int) bool) {
		var add func(holders []int) bool
		add = func(holders []int) bool {
			if len(holders) == len(l.Stalls) {
				envies, e := stall.Envies(l, holders)
				return e != api.OK || len(envies) > 0 || yield(holders)
			}
			for holder := nobody; holder < len(l.Applicants); holder++ {
				if !add(append(slices.Clone(holders), holder)) {
					return false
				}
			}
			return true
		}
		add(nil)
	}
}

// wish returns which of its wishes a holder has: a lesser number is a better one; the one behind the last if it has none.
func wish(l api.Letting, holders []int, applicant int) int {
	wishes := l.Applicants[applicant].Wishes
	at := slices.Index(wishes, slices.Index(holders, applicant))
	if at < 0 {
		return len(wishes)
	}
	return at
}

// wishedNoLess says whether all applicants wish what they have at least as much as what they would have with other holders.
func wishedNoLess(l api.Letting, holders, others []int) bool {
	for a := range l.Applicants {
		if wish(l, holders, a) > wish(l, others, a) {
			return false
		}
	}
	return true
}

// T9: whatever is noted, every sale is one of a stall that has a holder; without a swap the holders are the best fair ones, whom nobody envies; after one each holder wishes its stall at least as much; no rent is below what its stall asks.
func TestSellers(t *testing.T) {
	sales, swapped, several := 0, 0, 0
	for m, notes := range markets(t, 1000, 4, 40) {
		d := kept(t, m, notes...)
		for _, s := range d.Sales {
			if len(d.Holders) == 0 || d.Holders[s.Stall] == nobody {
				t.Fatal(m, notes, d)
			}
			sales++
		}
		if len(d.Holders) == 0 {
			continue
		}
		let := kept(t, m, "let").Holders
		if envies, e := stall.Envies(m.Letting, let); e != api.OK || len(envies) > 0 {
			t.Fatal(m, let, envies, e)
		}
		fair := 0
		for others := range fairHolders(m.Letting) {
			if !wishedNoLess(m.Letting, let, others) {
				t.Fatal(m, let, others)
			}
			fair++
		}
		if fair > 1 {
			several++
		}
		if noSwap := taken(t, m, notes, "swap") == nil; noSwap && !slices.Equal(d.Holders, let) {
			t.Fatal(m, notes, d, let)
		}
		if !wishedNoLess(m.Letting, d.Holders, let) {
			t.Fatal(m, notes, d, let)
		}
		if !slices.Equal(d.Holders, let) {
			swapped++
		}
		rents, e := stall.Rents(m.Letting, d.Holders)
		if e != api.OK {
			t.Fatal(m, d, e)
		}
		for s, holder := range d.Holders {
			if holder != nobody && rents[s] < m.Letting.Stalls[s].Least {
				t.Fatal(m, d, rents)
			}
		}
	}
	if sales < 1000 || swapped < 20 || several < 20 {
		t.Error("few of a kind:", sales, swapped, several)
	}
}
