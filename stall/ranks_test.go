package stall_test

import (
	"math/rand/v2"
	"slices"
	"testing"

	"shambles/api"
	"shambles/stall"
)

func equal(a, b []int) bool { return slices.Equal(a, b) }

// P2.1: the examples of the draw, and its edges.
func TestDraw(t *testing.T) {
	token := func(n int) api.Letting { return changed(func(l *api.Letting) { l.Applicants[0].Token = n }) }
	for _, c := range []struct {
		l    api.Letting
		want []int
	}{
		{letting(), []int{3, 0, 1, 2}},
		{token(8), []int{0, 2, 1, 3}},
		{changed(func(l *api.Letting) { l.Applicants = l.Applicants[:3] }), []int{2, 1, 0}},
		{changed(func(l *api.Letting) { l.Applicants, l.Stalls[2].Heir = l.Applicants[:1], nobody }), []int{0}},
		{api.Letting{Stalls: letting().Stalls[:2], Applicants: make([]api.Applicant, 8)}, []int{0, 1, 2, 3, 4, 5, 6, 7}},
		{unwished(), nil},
	} {
		if got, e := stall.Draw(c.l); !equal(got, c.want) || e != api.OK {
			t.Error(c.l, got, e)
		}
	}
	for _, l := range []api.Letting{full(), token(api.MaxToken)} {
		if got, e := stall.Draw(l); !equal(got, wantDraw(l)) || e != api.OK {
			t.Error(l, got, e)
		}
	}
}

// P2.4: the draw has each applicant once, and is as the chapter says.
func TestDrawnOnce(t *testing.T) {
	r := rand.New(rand.NewPCG(2, 4))
	for range 3000 {
		l := pickLetting(r, 2, 8)
		for i := range l.Applicants {
			l.Applicants[i].Token = r.IntN(api.MaxToken + 1)
		}
		got, e := stall.Draw(l)
		if e != api.OK || !equal(got, wantDraw(l)) {
			t.Fatal(l, got, e)
		}
		slices.Sort(got)
		for i := range l.Applicants {
			if got[i] != i || len(got) != len(l.Applicants) {
				t.Fatal(l, got)
			}
		}
	}
}

// P2.4: of as many tokens of one applicant, one after the other, as there are orders, each gives another order.
func TestEachOrder(t *testing.T) {
	r := rand.New(rand.NewPCG(4, 2))
	orders := 1
	for many := 1; many <= 7; many++ {
		orders *= many
		l := api.Letting{Stalls: []api.Stall{{Rule: api.LetLot, Heir: nobody}}}
		for range many {
			l.Applicants = append(l.Applicants, api.Applicant{Token: r.IntN(api.MaxToken + 1)})
		}
		from, one := r.IntN(api.MaxToken-orders), r.IntN(many)
		seen := map[[7]int]bool{}
		for i := range orders {
			l.Applicants[one].Token = from + i
			drawn, _ := stall.Draw(l)
			var order [7]int
			copy(order[:], drawn)
			seen[order] = true
		}
		if len(seen) != orders {
			t.Error(many, len(seen), orders)
		}
	}
}

// P2.1: the examples of ranks, each rule that decides, and the errors.
func TestRanks(t *testing.T) {
	type ranks struct {
		l     api.Letting
		stall int
		want  []int
		e     api.Errno
	}
	heir := func(stall, heir int) api.Letting {
		return changed(func(l *api.Letting) { l.Stalls[stall].Heir = heir })
	}
	bids := func(b, years int) api.Letting {
		return changed(func(l *api.Letting) { l.Applicants[3].Bids[0], l.Applicants[3].Years = b, years })
	}
	for i, c := range []ranks{
		{letting(), 0, []int{3, 0, 2}, api.OK},
		{letting(), 1, []int{1, 3, 0}, api.OK},
		{letting(), 2, []int{2, 1, 3}, api.OK},
		{changed(func(l *api.Letting) { l.Applicants[2].Bids[1] = 299 }), 2, []int{1, 3}, api.OK},
		{changed(func(l *api.Letting) { l.Applicants[2].Bids[1] = 300 }), 2, []int{2, 1, 3}, api.OK},
		{heir(2, nobody), 2, []int{1, 3, 2}, api.OK},
		{heir(0, 2), 0, []int{2, 3, 0}, api.OK},
		{heir(1, 0), 1, []int{0, 1, 3}, api.OK},
		{heir(0, 1), 0, []int{3, 0, 2}, api.OK},
		{bids(500, 8), 2, []int{2, 1, 3}, api.OK},
		{bids(500, 9), 2, []int{2, 3, 1}, api.OK},
		{bids(500, 10), 2, []int{2, 3, 1}, api.OK},
		{bids(501, 0), 2, []int{2, 3, 1}, api.OK},
		{bids(499, 60), 2, []int{2, 1, 3}, api.OK},
		{changed(func(l *api.Letting) { l.Stalls[2].Least = 501 }), 2, nil, api.OK},
		{changed(func(l *api.Letting) { l.Stalls[1].Least = 501 }), 1, []int{1, 3, 0}, api.OK},
		{changed(func(l *api.Letting) { l.Stalls[2].Rule = api.LetLot }), 2, []int{2, 3, 1}, api.OK},
		{unwished(), 1, nil, api.OK},
		{letting(), 3, nil, api.ErrMissing},
		{letting(), -1, nil, api.ErrMissing},
	} {
		if got, e := stall.Ranks(c.l, c.stall); !equal(got, c.want) || e != c.e {
			t.Error(i, got, e)
		}
	}
}

// P2.9: ranks have exactly those that can have the stall, the rules say who is ahead, and an heir that can have it is first.
func TestAhead(t *testing.T) {
	r := rand.New(rand.NewPCG(2, 9))
	for range 3000 {
		l := pickLetting(r, 4, 8)
		for s := range l.Stalls {
			got, e := stall.Ranks(l, s)
			if e != api.OK {
				t.Fatal(l, e)
			}
			for a := range l.Applicants {
				if slices.Contains(got, a) != canHave(l, a, s) {
					t.Fatal(l, s, got, a)
				}
			}
			for i, a := range got {
				for _, b := range got[i+1:] {
					if a == b || !isAhead(l, s, a, b) || isAhead(l, s, b, a) {
						t.Fatal(l, s, got, a, b)
					}
				}
			}
			if heir := l.Stalls[s].Heir; heir != nobody && canHave(l, heir, s) && got[0] != heir {
				t.Fatal(l, s, got)
			}
		}
	}
}
