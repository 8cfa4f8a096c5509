package cold

import (
	"iter"
	"slices"

	"shambles/api"
)

// Ends of what may be.
const (
	least = iota
	most
	both
)

// ends is the least and the greatest that something may be.
type ends [both]int

func endsOf(s api.Span) ends { return ends{least: s.Lo, most: s.Hi} }

func (e ends) span() api.Span { return api.Span{Lo: e[least], Hi: e[most]} }

// state is a box in an hour: the ice that it may have, and its fillings that are still to come. There is a truth in which it has the least ice in all hours, and one in which it has the most.
type state struct {
	box      api.Box
	hour     int
	ice      ends
	fillings []api.Filling
}

// begin returns the state of a box before all hours.
func begin(c api.Cellar, box int) state {
	others := func(f api.Filling) bool { return f.Box != box }
	return state{
		box:      c.Boxes[box],
		ice:      endsOf(c.Boxes[box].Ice),
		fillings: slices.DeleteFunc(slices.Clone(c.Fillings), others),
	}
}

// hours hands out the hours up to another one, each with the ice in the box after its fillings.
func (s *state) hours(until int) iter.Seq2[int, ends] {
	return func(yield func(hour int, ice ends) bool) {
		for s.hour < until {
			s.fill()
			if !yield(s.hour, s.ice) {
				return
			}
			s.melt()
			s.hour++
		}
	}
}

func (s *state) fill() {
	for len(s.fillings) > 0 && s.fillings[0].Hour == s.hour {
		s.put(s.fillings[0].Grams)
		s.fillings = s.fillings[1:]
	}
}

// put puts ice into the box; what it has no room for is lost.
func (s *state) put(grams int) {
	for end := range s.ice {
		s.ice[end] = min(s.ice[end]+grams, s.box.Room)
	}
}

func (s *state) melt() {
	s.ice[least] = max(0, s.ice[least]-s.box.Melt.Hi)
	s.ice[most] = max(0, s.ice[most]-s.box.Melt.Lo)
}

// warmth returns how warm the box may be with this ice.
func (s *state) warmth(ice ends) ends {
	warmth := endsOf(s.box.Warm)
	if ice[most] > 0 {
		warmth[least] = s.box.Cold.Lo
	}
	if ice[least] > 0 {
		warmth[most] = s.box.Cold.Hi
	}
	return warmth
}

// lasts puts scoops into the box in its hour, lets the hours pass up to another one, and says whether the box is surely cold in all of them.
func (s *state) lasts(until, scoops, grams int) bool {
	visit := s.hour
	for hour := range s.hours(until) {
		if hour == visit {
			for range scoops {
				s.put(grams)
			}
		}
		if s.ice[least] == 0 {
			return false
		}
	}
	return true
}

// fewest returns the fewest scoops with which the box is surely cold up to an hour, the first ones of several; nil if there are none.
func (s state) fewest(visits []int, grams, until int) []int {
	var chosen []int
	bound := len(visits)*api.MaxScoops + 1
	var try func(now state, scoops []int, many int)
	// Scoops are tried in lexicographic order: of those that are as few the first ones are met first.
	try = func(now state, scoops []int, many int) {
		if many >= bound {
			return
		}
		if len(scoops) == len(visits) {
			bound, chosen = many, slices.Clone(scoops)
			return
		}
		next := until
		if later := visits[len(scoops)+1:]; len(later) > 0 {
			next = min(later[0], until)
		}
		for n := range api.MaxScoops + 1 {
			if then := now; then.lasts(next, n, grams) {
				try(then, append(scoops, n), many+n)
			}
		}
	}
	if s.lasts(min(visits[0], until), 0, grams) {
		try(s, nil, 0)
	}
	return chosen
}
