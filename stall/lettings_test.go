package stall_test

import (
	"iter"
	"math/rand/v2"
	"slices"
	"testing"

	"shambles/api"
	"shambles/stall"
)

// nobody stands where there is no applicant.
const nobody = -1

// letting is the letting L of the chapter's examples.
func letting() api.Letting {
	return api.Letting{
		Stalls: []api.Stall{
			{Rule: api.LetLot, Least: 100, Heir: nobody},
			{Rule: api.LetYears, Least: 200, Heir: nobody},
			{Rule: api.LetBid, Least: 300, Heir: 2},
		},
		Applicants: []api.Applicant{
			{Years: 5, Token: 7, Wishes: []int{1, 0}, Bids: []int{0, 0}},
			{Years: 9, Token: 11, Wishes: []int{1, 2}, Bids: []int{0, 500}},
			{Years: 2, Token: 5, Wishes: []int{0, 2}, Bids: []int{0, 300}},
			{Years: 5, Token: 4, Wishes: []int{2, 1, 0}, Bids: []int{400, 0, 0}},
		},
	}
}

// changed is the letting L with a change.
func changed(change func(l *api.Letting)) api.Letting {
	l := letting()
	change(&l)
	return l
}

// unwished is the letting L without applicants, whom the heir is one of.
func unwished() api.Letting {
	return changed(func(l *api.Letting) { l.Applicants, l.Stalls[2].Heir = nil, nobody })
}

// full is a letting with as much as there may be of everything.
func full() api.Letting {
	var l api.Letting
	for i := range api.MaxLet {
		l.Stalls = append(l.Stalls, api.Stall{Rule: api.LetYears, Least: api.MaxBid, Heir: i})
	}
	for i := range api.MaxApplicants {
		a := api.Applicant{Years: api.MaxYears, Token: api.MaxToken - i}
		for j := range api.MaxLet {
			a.Wishes = append(a.Wishes, (i+j)%api.MaxLet)
			a.Bids = append(a.Bids, api.MaxBid)
		}
		l.Applicants = append(l.Applicants, a)
	}
	return l
}

// copied shares no memory with l.
func copied(l api.Letting) api.Letting {
	l.Stalls = slices.Clone(l.Stalls)
	l.Applicants = slices.Clone(l.Applicants)
	for i := range l.Applicants {
		a := &l.Applicants[i]
		a.Wishes, a.Bids = slices.Clone(a.Wishes), slices.Clone(a.Bids)
	}
	return l
}

// same says whether lettings are equal; a nil slice is equal to an empty one.
func same(a, b api.Letting) bool {
	return slices.Equal(a.Stalls, b.Stalls) && slices.EqualFunc(a.Applicants, b.Applicants, func(x, y api.Applicant) bool {
		return x.Years == y.Years && x.Token == y.Token && slices.Equal(x.Wishes, y.Wishes) && slices.Equal(x.Bids, y.Bids)
	})
}

// pickLetting returns a letting of at most so many stalls and applicants, with numbers that often are equal.
func pickLetting(r *rand.Rand, stalls, applicants int) api.Letting {
	var l api.Letting
	many := r.IntN(applicants + 1)
	for range 1 + r.IntN(stalls) {
		l.Stalls = append(l.Stalls, api.Stall{Rule: 1 + r.IntN(3), Least: r.IntN(3), Heir: max(nobody, r.IntN(2*many+2)-many-2)})
	}
	for range many {
		a := api.Applicant{Years: r.IntN(3), Token: r.IntN(1000)}
		for _, wish := range r.Perm(len(l.Stalls))[:max(0, len(l.Stalls)-r.IntN(3))] {
			a.Wishes = append(a.Wishes, wish)
			a.Bids = append(a.Bids, r.IntN(4))
		}
		l.Applicants = append(l.Applicants, a)
	}
	return l
}

// pickContest returns a letting by bid in which everybody wishes every stall: there often are several fair holders.
func pickContest(r *rand.Rand) api.Letting {
	var l api.Letting
	many := 2 + r.IntN(3)
	for range many {
		l.Stalls = append(l.Stalls, api.Stall{Rule: api.LetBid, Heir: nobody})
		a := api.Applicant{Token: r.IntN(1000), Wishes: r.Perm(many)}
		for range many {
			a.Bids = append(a.Bids, r.IntN(100))
		}
		l.Applicants = append(l.Applicants, a)
	}
	return l
}

// lettings hands out L, and by turns small lettings of all kinds and contests.
func lettings(many int) iter.Seq[api.Letting] {
	return func(yield func(api.Letting) bool) {
		r := rand.New(rand.NewPCG(2, 18))
		if !yield(letting()) {
			return
		}
		for range many / 2 {
			if !yield(pickLetting(r, 4, 4)) || !yield(pickContest(r)) {
				return
			}
		}
	}
}

// wantDraw is the draw just as the chapter has it.
func wantDraw(l api.Letting) []int {
	var list, drawn []int
	total := 0
	for i, a := range l.Applicants {
		list = append(list, i)
		total += a.Token
	}
	for k := len(list); k >= 1; k-- {
		place := total % k
		drawn = append(drawn, list[place])
		list = slices.Delete(list, place, place+1)
		total /= k
	}
	return drawn
}

// bid returns the bid of an applicant for a stall, and whether it wishes the stall.
func bid(l api.Letting, applicant, stall int) (int, bool) {
	a := l.Applicants[applicant]
	i := slices.Index(a.Wishes, stall)
	if i < 0 {
		return 0, false
	}
	return a.Bids[i], true
}

// canHave says whether an applicant can have a stall.
func canHave(l api.Letting, applicant, stall int) bool {
	b, wished := bid(l, applicant, stall)
	return wished && (l.Stalls[stall].Rule != api.LetBid || b >= l.Stalls[stall].Least)
}

// isAhead says which of two applicants that can have a stall is ahead: rule by rule, as the chapter has them.
func isAhead(l api.Letting, stall, a, b int) bool {
	bidA, _ := bid(l, a, stall)
	bidB, _ := bid(l, b, stall)
	years := l.Applicants[a].Years - l.Applicants[b].Years
	s := l.Stalls[stall]
	if s.Heir == a {
		return true
	}
	if s.Heir == b {
		return false
	}
	if s.Rule == api.LetYears && years != 0 {
		return years > 0
	}
	if s.Rule == api.LetBid && (bidA != bidB || years != 0) {
		return bidA > bidB || bidA == bidB && years > 0
	}
	drawn := wantDraw(l)
	return slices.Index(drawn, a) < slices.Index(drawn, b)
}

// had returns the stall that an applicant has, or -1.
func had(holders []int, applicant int) int { return slices.Index(holders, applicant) }

// wishesMore says whether an applicant wishes a stall more than another one; -1 is no stall.
func wishesMore(l api.Letting, applicant, stall, than int) bool {
	wishes := l.Applicants[applicant].Wishes
	place, other := slices.Index(wishes, stall), slices.Index(wishes, than)
	return place >= 0 && (other < 0 || place < other)
}

// wantEnvies looks at each applicant and each stall.
func wantEnvies(l api.Letting, holders []int) []api.Envy {
	var list []api.Envy
	for a := range l.Applicants {
		for s, holder := range holders {
			if canHave(l, a, s) && wishesMore(l, a, s, had(holders, a)) && (holder == nobody || !isAhead(l, s, holder, a)) {
				list = append(list, api.Envy{Applicant: a, Stall: s})
			}
		}
	}
	return list
}

// allHolders hands out all valid holders.
func allHolders(l api.Letting) iter.Seq[[]int] {
	return func(yield func([]int) bool) {
		var holders []int
		var add func() bool
		add = func() bool {
			if len(holders) == len(l.Stalls) {
				return yield(slices.Clone(holders))
			}
			for a := nobody; a < len(l.Applicants); a++ {
				if a != nobody && (slices.Contains(holders, a) || !canHave(l, a, len(holders))) {
					continue
				}
				holders = append(holders, a)
				if !add() {
					return false
				}
				holders = holders[:len(holders)-1]
			}
			return true
		}
		add()
	}
}

// let returns the holders of Let, which has no error.
func let(t *testing.T, l api.Letting) []int {
	t.Helper()
	holders, e := stall.Let(l)
	if e != api.OK {
		t.Fatal(l, e)
	}
	return holders
}
