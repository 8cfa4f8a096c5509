package swap_test

import (
	"math/rand/v2"
	"slices"
	"testing"

	"shambles/api"
	"shambles/stall"
	"shambles/swap"
)

// nobody stands where there is no applicant.
const nobody = -1

// letting is the letting L of the examples of layer 2.
func letting() api.Letting {
	return api.Letting{
		Stalls: []api.Stall{
			{Rule: api.LetLot, Least: 100, Heir: nobody},
			{Rule: api.LetYears, Least: 200, Heir: nobody},
			{Rule: api.LetBid, Least: 300, Heir: 2},
		},
		Applicants: []api.Applicant{
			{Years: 5, Token: 7, Wishes: []int{1, 0}, Bids: []int{0, 0}},
			{Years: 9, Token: 11, Wishes: []int{1, 2}, Bids: []int{0, 500}},
			{Years: 2, Token: 5, Wishes: []int{0, 2}, Bids: []int{0, 300}},
			{Years: 5, Token: 4, Wishes: []int{2, 1, 0}, Bids: []int{400, 0, 0}},
		},
	}
}

// fromL is the trade of the holders 3 1 2 of L on the day 4.
func fromL() api.Trade {
	return owned(on(4, 1, 2, 0), on(4, 1, 2), on(4, 0, 2), on(4, 2, 1, 0))
}

// poor is the letting L with a bid of the applicant 3 that is too low.
func poor() api.Letting {
	l := letting()
	l.Applicants[3].Bids[0] = 299
	return l
}

// P6.3: the example, wishes that cannot be had, and stalls without a holder.
func TestFrom(t *testing.T) {
	dear := letting()
	dear.Stalls[1].Least, dear.Stalls[0].Least = 1000, 1000
	for i, c := range []struct {
		l          api.Letting
		holders    []int
		day        int
		want       api.Trade
		applicants []int
	}{
		{letting(), []int{3, 1, 2}, 4, fromL(), []int{1, 2, 3}},
		{letting(), []int{2, 0, 1}, 0, owned(on(0, 1, 2, 0), on(0, 1, 0), on(0, 1, 2), on(0, 0, 2)), []int{0, 1, 2}},
		{letting(), []int{-1, 3, -1}, 6, owned(on(6, 1), on(6, 2, 1, 0)), []int{3}},
		{letting(), []int{-1, -1, -1}, 3, api.Trade{}, nil},
		{poor(), []int{3, 1, 2}, 4, owned(on(4, 1, 2, 0), on(4, 1, 2), on(4, 0, 2), on(4, 1, 0)), []int{1, 2, 3}},
		// The least bid matters only for a stall that is let by bid.
		{dear, []int{3, 1, 2}, 4, fromL(), []int{1, 2, 3}},
	} {
		x, list, e := swap.From(c.l, c.holders, c.day)
		if e != api.OK || !same(x, c.want) || !slices.Equal(list, c.applicants) {
			t.Error(i, x, list, e)
		}
		if e := swap.Check(x); e != api.OK {
			t.Error(i, x, e)
		}
	}
	if after := swapped(t, fromL()); !slices.Equal(after, on(4, 1, 0, 2)) {
		t.Error(after)
	}
}

// P6.3: the errors, in their order.
func TestFromErrors(t *testing.T) {
	for i, c := range []struct {
		l       api.Letting
		holders []int
		day     int
		want    api.Errno
	}{
		{letting(), []int{3, 1, 2}, -1, api.ErrRange},
		{letting(), []int{3, 1, 2}, 0, api.OK},
		{letting(), []int{3, 1, 2}, 6, api.OK},
		{letting(), []int{3, 1, 2}, 7, api.ErrRange},
		{letting(), []int{3, 1}, 7, api.ErrForm},
		{letting(), []int{4, 1, 2}, 7, api.ErrMissing},
		{letting(), []int{3, 3, 2}, 7, api.ErrExists},
		{letting(), []int{1, 1, 2}, 7, api.ErrClash},
		{poor(), []int{-1, -1, 3}, 7, api.ErrClash},
		{api.Letting{}, nil, 7, api.ErrShort},
		{api.Letting{Stalls: make([]api.Stall, 9)}, nil, 7, api.ErrFull},
		{api.Letting{Stalls: make([]api.Stall, 1)}, nil, 0, api.ErrKind},
	} {
		x, list, e := swap.From(c.l, c.holders, c.day)
		if e != c.want || e != api.OK && (!same(x, api.Trade{}) || list != nil) {
			t.Error(i, x, list, e)
		}
	}
}

// pickLetting returns a letting of at most so many applicants, who wish most of the stalls.
func pickLetting(r *rand.Rand, applicants int) api.Letting {
	var l api.Letting
	for range 1 + r.IntN(applicants) {
		l.Stalls = append(l.Stalls, api.Stall{Rule: 1 + r.IntN(3), Least: r.IntN(3), Heir: nobody})
	}
	for range r.IntN(applicants + 1) {
		a := api.Applicant{Years: r.IntN(60), Token: r.IntN(1000)}
		a.Wishes = r.Perm(len(l.Stalls))[:max(0, len(l.Stalls)-r.IntN(2))]
		for range a.Wishes {
			a.Bids = append(a.Bids, r.IntN(8))
		}
		l.Applicants = append(l.Applicants, a)
	}
	return l
}

// canHave says whether an applicant can have a stall: it wishes it, and bids enough.
func canHave(l api.Letting, applicant, stall int) bool {
	a := l.Applicants[applicant]
	i := slices.Index(a.Wishes, stall)
	return i >= 0 && (l.Stalls[stall].Rule != api.LetBid || a.Bids[i] >= l.Stalls[stall].Least)
}

// pickHolders returns holders as they come: stalls that they can have, not the best ones.
func pickHolders(r *rand.Rand, l api.Letting) []int {
	holders := slices.Repeat([]int{nobody}, len(l.Stalls))
	for _, a := range r.Perm(len(l.Applicants)) {
		for _, s := range r.Perm(len(l.Stalls)) {
			if holders[s] == nobody && canHave(l, a, s) {
				holders[s] = a
				break
			}
		}
	}
	return holders
}

// let is a letting with holders, the trade of them on a day, and who its traders are.
type let struct {
	letting api.Letting
	holders []int
	day     int
	trade   api.Trade
	traders []int
}

// pickLet lets stalls, now and then by no rule.
func pickLet(t *testing.T, r *rand.Rand, applicants, day int) let {
	t.Helper()
	l := pickLetting(r, applicants)
	holders, e := stall.Let(l)
	if r.IntN(2) == 0 {
		holders = pickHolders(r, l)
	}
	x, traders, f := swap.From(l, holders, day)
	if e != api.OK || f != api.OK || swap.Check(x) != api.OK {
		t.Fatal(l, holders, x, e, f)
	}
	return let{l, holders, day, x, traders}
}

// P6.3: the trade has just the holders, with the wishes that they can have.
func TestFromAll(t *testing.T) {
	r := rand.New(rand.NewPCG(6, 3))
	for range 3000 {
		x := pickLet(t, r, 8, r.IntN(7))
		var want api.Trade
		var traders []int
		for a := range x.letting.Applicants {
			s := slices.Index(x.holders, a)
			if s < 0 {
				continue
			}
			var likes []api.Turn
			for _, wish := range x.letting.Applicants[a].Wishes {
				if canHave(x.letting, a, wish) {
					likes = append(likes, api.Turn{Stall: wish, Day: x.day})
				}
			}
			traders = append(traders, a)
			want.Owns = append(want.Owns, api.Turn{Stall: s, Day: x.day})
			want.Likes = append(want.Likes, likes)
		}
		if !same(x.trade, want) || !slices.Equal(x.traders, traders) {
			t.Fatal(x, want, traders)
		}
	}
}

// P6.11: after a swap of stalls that were let, each holder can have its stall, and wishes it at least as much as the one that it had.
func TestStalls(t *testing.T) {
	r := rand.New(rand.NewPCG(6, 11))
	better := 0
	for range 3000 {
		x := pickLet(t, r, 8, r.IntN(7))
		holders := slices.Repeat([]int{nobody}, len(x.holders))
		for i, turn := range swapped(t, x.trade) {
			a := x.traders[i]
			wishes := x.letting.Applicants[a].Wishes
			before, after := slices.Index(wishes, slices.Index(x.holders, a)), slices.Index(wishes, turn.Stall)
			if turn.Day != x.day || !canHave(x.letting, a, turn.Stall) || after > before {
				t.Fatal(x, a, turn)
			}
			if after < before {
				better++
			}
			holders[turn.Stall] = a
		}
		if e := stall.CheckHolders(x.letting, holders); e != api.OK {
			t.Fatal(x, holders, e)
		}
		for s := range holders {
			if (holders[s] == nobody) != (x.holders[s] == nobody) {
				t.Fatal(x, holders)
			}
		}
	}
	if better < 1000 {
		t.Error("few stalls that are wished more:", better)
	}
}

// T7: if the stalls of two days are swapped in one trade, each holder has what a swap of its own day gives it; no stall is had twice on a day; no group blocks that, and no ring of both days pleases.
func TestWeek(t *testing.T) {
	r := rand.New(rand.NewPCG(7, 6))
	for range 1500 {
		days := r.Perm(api.MaxWeek)
		a, b := pickLet(t, r, 4, days[0]), pickLet(t, r, 4, days[1])
		both := api.Trade{
			Owns:  slices.Concat(a.trade.Owns, b.trade.Owns),
			Likes: slices.Concat(a.trade.Likes, b.trade.Likes),
		}
		after := swapped(t, both)
		if want := slices.Concat(swapped(t, a.trade), swapped(t, b.trade)); !slices.Equal(after, want) {
			t.Fatal(both, after, want)
		}
		for i, turn := range after {
			if slices.Contains(after[:i], turn) {
				t.Fatal(both, after)
			}
		}
		group, e := swap.Blocks(both, after)
		ring, f := swap.Pleases(both, after)
		if e != api.OK || f != api.OK || len(group)+len(ring) > 0 {
			t.Fatal(both, after, group, ring, e, f)
		}
		if len(after) < 6 && (wantBlocks(both, after) != nil || wantPleases(both, after) != nil) {
			t.Fatal(both, after)
		}
	}
}
