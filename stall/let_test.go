package stall_test

import (
	"iter"
	"slices"
	"testing"

	"shambles/api"
	"shambles/stall"
)

// crossed is two stalls whose holders would rather exchange them: by years each would get the one that it wishes less.
func crossed() api.Letting {
	return api.Letting{
		Stalls: []api.Stall{{Rule: api.LetYears, Heir: 0}, {Rule: api.LetYears, Heir: 1}},
		Applicants: []api.Applicant{
			{Wishes: []int{1, 0}, Bids: []int{0, 0}},
			{Wishes: []int{0, 1}, Bids: []int{0, 0}},
		},
	}
}

// P2.2: the examples of Let, and its edges.
func TestLet(t *testing.T) {
	third := crossed()
	third.Applicants = append(third.Applicants, api.Applicant{Years: 9, Wishes: []int{0}, Bids: []int{0}})
	for i, c := range []struct {
		l    api.Letting
		want []int
	}{
		{letting(), []int{3, 1, 2}},
		{changed(func(l *api.Letting) { l.Applicants = l.Applicants[:3] }), []int{2, 1, nobody}},
		{changed(func(l *api.Letting) { l.Stalls[2].Least = 501 }), []int{3, 1, nobody}},
		{changed(func(l *api.Letting) { l.Applicants[3].Wishes, l.Applicants[3].Bids = nil, nil }), []int{0, 1, 2}},
		{unwished(), []int{nobody, nobody, nobody}},
		{crossed(), []int{1, 0}},
		{third, []int{0, 1}},
		{full(), []int{0, 1, 2, 3, 4, 5, 6, 7}},
	} {
		if got, e := stall.Let(c.l); !equal(got, c.want) || e != api.OK {
			t.Error(i, got, e)
		}
	}
}

// P2.2: the examples of Envies and Rents, and holders that nobody would choose.
func TestEnviesAndRents(t *testing.T) {
	type held struct {
		l       api.Letting
		holders []int
		envies  []api.Envy
		rents   []int
	}
	for i, c := range []held{
		{letting(), []int{3, 1, 2}, nil, []int{100, 200, 300}},
		{letting(), []int{0, 1, 2}, pairs(3, 0), []int{100, 200, 300}},
		{letting(), []int{2, 1, 3}, pairs(0, 0), []int{100, 200, 400}},
		{letting(), []int{3, 1, nobody}, pairs(2, 2, 3, 2), []int{100, 200, 0}},
		{letting(), []int{3, 0, 1}, pairs(1, 1, 2, 2, 3, 1), []int{100, 200, 500}},
		{letting(), []int{nobody, nobody, nobody}, pairs(0, 0, 0, 1, 1, 1, 1, 2, 2, 0, 2, 2, 3, 0, 3, 1, 3, 2), []int{0, 0, 0}},
		{crossed(), []int{0, 1}, nil, []int{0, 0}},
		{unwished(), []int{nobody, nobody, nobody}, nil, []int{0, 0, 0}},
	} {
		envies, e := stall.Envies(c.l, c.holders)
		rents, f := stall.Rents(c.l, c.holders)
		if !slices.Equal(envies, c.envies) || !equal(rents, c.rents) || e != api.OK || f != api.OK {
			t.Error(i, envies, e, rents, f)
		}
	}
}

// pairs returns envies, each told by its applicant and its stall.
func pairs(numbers ...int) []api.Envy {
	var list []api.Envy
	for i := 0; i < len(numbers); i += 2 {
		list = append(list, api.Envy{Applicant: numbers[i], Stall: numbers[i+1]})
	}
	return list
}

// P2.5: no applicant has two stalls, each holder can have its stall, and nobody envies a stall; greater lettings too.
func TestOneHolder(t *testing.T) {
	for l := range lettings(2000) {
		holdFair(t, l)
	}
	for range 20 {
		holdFair(t, full())
	}
}

func holdFair(t *testing.T, l api.Letting) {
	t.Helper()
	holders := let(t, l)
	if e := stall.CheckHolders(l, holders); e != api.OK {
		t.Fatal(l, holders, e)
	}
	for s, a := range holders {
		if a != nobody && (!canHave(l, a, s) || had(holders, a) != s) {
			t.Fatal(l, holders)
		}
	}
	if envies := wantEnvies(l, holders); envies != nil {
		t.Fatal(l, holders, envies)
	}
}

// P2.6: with no fair holders does an applicant have a stall that it wishes more; with all of them the same applicants have a stall, and the same stalls have a holder.
func TestBest(t *testing.T) {
	more := 0
	for l := range lettings(2000) {
		best := let(t, l)
		fair := 0
		for holders := range allHolders(l) {
			if wantEnvies(l, holders) != nil {
				continue
			}
			fair++
			for a := range l.Applicants {
				stall, other := had(best, a), had(holders, a)
				if wishesMore(l, a, other, stall) || (stall < 0) != (other < 0) {
					t.Fatal(l, best, holders, a)
				}
			}
			for s := range l.Stalls {
				if (best[s] == nobody) != (holders[s] == nobody) {
					t.Fatal(l, best, holders, s)
				}
			}
		}
		if fair == 0 {
			t.Fatal(l, best)
		}
		if fair > 1 {
			more++
		}
	}
	if more < 100 {
		t.Error("few lettings with several fair holders:", more)
	}
}

// tales hands out an applicant with all orders of some of its wishes.
func tales(a api.Applicant) iter.Seq[api.Applicant] {
	return func(yield func(api.Applicant) bool) {
		tale := api.Applicant{Years: a.Years, Token: a.Token}
		var add func() bool
		add = func() bool {
			if !yield(tale) {
				return false
			}
			for i, wish := range a.Wishes {
				if slices.Contains(tale.Wishes, wish) {
					continue
				}
				before := tale
				tale.Wishes = append(slices.Clone(before.Wishes), wish)
				tale.Bids = append(slices.Clone(before.Bids), a.Bids[i])
				if !add() {
					return false
				}
				tale = before
			}
			return true
		}
		add()
	}
}

// P2.7: no applicant gets a stall that it wishes more if it tells other wishes.
func TestTruth(t *testing.T) {
	for l := range lettings(400) {
		holders := let(t, l)
		for a, applicant := range l.Applicants {
			told := copied(l)
			for told.Applicants[a] = range tales(applicant) {
				other := let(t, told)
				if wishesMore(l, a, had(other, a), had(holders, a)) {
					t.Fatal(l, told, holders, other, a)
				}
			}
		}
	}
}

// P2.8: with a stall more, nobody has a stall that it wishes less.
func TestStallMore(t *testing.T) {
	for l := range lettings(2000) {
		last := len(l.Stalls) - 1
		if last == 0 {
			continue
		}
		less := copied(l)
		less.Stalls = less.Stalls[:last]
		for i := range less.Applicants {
			a := &less.Applicants[i]
			if at := slices.Index(a.Wishes, last); at >= 0 {
				a.Wishes = slices.Delete(a.Wishes, at, at+1)
				a.Bids = slices.Delete(a.Bids, at, at+1)
			}
		}
		before, after := let(t, less), let(t, l)
		for a := range l.Applicants {
			if wishesMore(l, a, had(before, a), had(after, a)) {
				t.Fatal(l, before, after, a)
			}
		}
	}
}

// P2.8: if an applicant withdraws all of its wishes, no other one has a stall that it wishes less.
func TestWithdrawn(t *testing.T) {
	for l := range lettings(2000) {
		before := let(t, l)
		for gone := range l.Applicants {
			less := copied(l)
			less.Applicants[gone].Wishes, less.Applicants[gone].Bids = nil, nil
			after := let(t, less)
			for a := range l.Applicants {
				if a != gone && wishesMore(l, a, had(before, a), had(after, a)) {
					t.Fatal(l, gone, before, after, a)
				}
			}
		}
	}
}

// P2.10: what Envies names is an envy, and nothing else is: all holders are looked at.
func TestEnvies(t *testing.T) {
	for l := range lettings(600) {
		for holders := range allHolders(l) {
			if got, e := stall.Envies(l, holders); !slices.Equal(got, wantEnvies(l, holders)) || e != api.OK {
				t.Fatal(l, holders, got, e)
			}
		}
	}
}

// P2.10: if one of the best fair holders leaves its stall, somebody envies the stall.
func TestLeft(t *testing.T) {
	for l := range lettings(2000) {
		for s, a := range let(t, l) {
			if a == nobody {
				continue
			}
			left := let(t, l)
			left[s] = nobody
			envies, e := stall.Envies(l, left)
			if e != api.OK || !slices.ContainsFunc(envies, func(x api.Envy) bool { return x.Stall == s }) {
				t.Fatal(l, left, envies, e)
			}
		}
	}
}

// P2.11: no rent is below Least if the stall has a holder; all rents are together what the holders pay.
func TestRents(t *testing.T) {
	for l := range lettings(600) {
		for holders := range allHolders(l) {
			rents, e := stall.Rents(l, holders)
			if e != api.OK || len(rents) != len(holders) {
				t.Fatal(l, holders, rents, e)
			}
			total, paid := 0, 0
			for s, rent := range rents {
				total += rent
				if holders[s] == nobody && rent != 0 || holders[s] != nobody && rent < l.Stalls[s].Least {
					t.Fatal(l, holders, rents)
				}
			}
			for a := range l.Applicants {
				paid += pays(l, a, had(holders, a))
			}
			if total != paid {
				t.Fatal(l, holders, rents, paid)
			}
		}
	}
}

// pays returns what an applicant pays for the stall that it has, if any.
func pays(l api.Letting, applicant, stall int) int {
	if stall < 0 {
		return 0
	}
	if l.Stalls[stall].Rule == api.LetBid {
		b, _ := bid(l, applicant, stall)
		return b
	}
	return l.Stalls[stall].Least
}
