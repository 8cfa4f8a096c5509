package stall

import (
	"iter"
	"slices"

	"shambles/api"
)

// order is applicants in their order, and behind the last one what does not count.
type order [api.MaxApplicants]int

// without returns the order without the one at a place: o is a copy, and what it was copied from stays as it is.
func (o order) without(place int) order {
	copy(o[place:], o[place+1:])
	return o
}

// draw returns the order in which all applicants are drawn.
func draw(l api.Letting) order {
	var left, drawn order
	tokens := 0
	for i, a := range l.Applicants {
		left[i] = i
		tokens += a.Token
	}
	for i := range l.Applicants {
		many := len(l.Applicants) - i
		place := tokens % many
		drawn[i] = left[place]
		left = left.without(place)
		tokens /= many
	}
	return drawn
}

// everybody returns all applicants, ascending.
func everybody(l api.Letting) []int {
	all := make([]int, len(l.Applicants))
	for i := range all {
		all[i] = i
	}
	return all
}

// wishes hands out the stalls that an applicant wishes, the best one first, each with the bid for it.
func wishes(a api.Applicant) iter.Seq2[int, int] {
	return func(yield func(stall, bid int) bool) {
		for i, stall := range a.Wishes {
			if !yield(stall, a.Bids[i]) {
				return
			}
		}
	}
}

// reach hands out the wishes of an applicant that it can have.
func reach(l api.Letting, applicant int) iter.Seq2[int, int] {
	return func(yield func(stall, bid int) bool) {
		for stall, bid := range wishes(l.Applicants[applicant]) {
			s := l.Stalls[stall]
			if s.Rule == api.LetBid && bid < s.Least {
				continue
			}
			if !yield(stall, bid) {
				return
			}
		}
	}
}

// bidFor returns the bid of an applicant for a stall, and whether it can have the stall.
func bidFor(l api.Letting, applicant, stall int) (int, bool) {
	for wish, bid := range reach(l, applicant) {
		if wish == stall {
			return bid, true
		}
	}
	return 0, false
}

// queue is those that can have a stall; drawn has their places in the draw.
type queue struct {
	letting api.Letting
	stall   int
	drawn   map[int]int
}

// ahead says whether a is ahead of b for the stall of the queue.
func (q queue) ahead(a, b int) bool {
	s := q.letting.Stalls[q.stall]
	if s.Heir == a || s.Heir == b {
		return s.Heir == a
	}
	bidA, _ := bidFor(q.letting, a, q.stall)
	bidB, _ := bidFor(q.letting, b, q.stall)
	if s.Rule == api.LetBid && bidA != bidB {
		return bidA > bidB
	}
	yearsA, yearsB := q.letting.Applicants[a].Years, q.letting.Applicants[b].Years
	if s.Rule != api.LetLot && yearsA != yearsB {
		return yearsA > yearsB
	}
	return q.drawn[a] < q.drawn[b]
}

// ranks returns those that can have a stall, the one first that is ahead of all others.
func ranks(l api.Letting, stall int) []int {
	drawn := draw(l)
	q := queue{l, stall, places(drawn[:len(l.Applicants)])}
	able := slices.DeleteFunc(everybody(l), func(applicant int) bool {
		_, ok := bidFor(l, applicant, stall)
		return !ok
	})
	return sorted(able, q.ahead)
}

// ranking has for each stall the places in its ranks.
type ranking []map[int]int

// rank returns the ranking of all stalls.
func rank(l api.Letting) ranking {
	var r ranking
	for stall := range l.Stalls {
		r = append(r, places(ranks(l, stall)))
	}
	return r
}

// better says whether an applicant that can have a stall is a better holder of it than the present one, or nobody.
func (r ranking) better(stall, applicant, holder int) bool {
	return holder == nobody || r[stall][applicant] < r[stall][holder]
}

// places returns the place that each item has in a list.
func places(list []int) map[int]int {
	where := map[int]int{}
	for place, item := range list {
		where[item] = place
	}
	return where
}

// sorted returns items, each one behind those that are ahead of it.
func sorted[T any](items []T, ahead func(a, b T) bool) []T {
	return slices.SortedFunc(slices.Values(items), func(a, b T) int {
		switch {
		case ahead(a, b):
			return -1
		case ahead(b, a):
			return 1
		}
		return 0
	})
}
