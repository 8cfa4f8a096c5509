package swap

import (
	"iter"
	"slices"

	"shambles/api"
)

// standing is what the traders own, hold and take.
type standing struct {
	owns, held []api.Turn
	tastes     tastes
}

func standingOf(t api.Trade, held []api.Turn) standing {
	return standing{t.Owns, held, tastesOf(t)}
}

// gains says whether a trader takes a turn and likes it more than what it holds.
func (s standing) gains(trader int, turn api.Turn) bool {
	return s.tastes.prefers(trader, turn, s.held[trader])
}

// keeps says whether a turn is what a trader holds, and takes. Of the turns that it takes it likes no other one just as much.
func (s standing) keeps(trader int, turn api.Turn) bool {
	return turn == s.held[trader] && has(s.tastes[trader], turn)
}

// groups hands out all groups of so many traders: those of fewer traders first, then in lexicographic order.
func groups(traders int) iter.Seq[[]int] {
	return func(yield func([]int) bool) {
		var add func(group []int, from, more int) bool
		add = func(group []int, from, more int) bool {
			if more == 0 {
				return yield(slices.Clone(group))
			}
			for trader := from; trader < traders; trader++ {
				if !add(append(group, trader), trader+1, more-1) {
					return false
				}
			}
			return true
		}
		for size := 1; size <= traders; size++ {
			if !add(nil, 0, size) {
				return
			}
		}
	}
}

// blocks says whether a group blocks the held turns.
func (s standing) blocks(group []int) bool {
	given := make([]bool, len(s.owns))
	var give func(to []int, gained bool) bool
	give = func(to []int, gained bool) bool {
		if len(to) == 0 {
			return gained
		}
		for _, owner := range group {
			turn := s.owns[owner]
			gains := s.gains(to[0], turn)
			if given[owner] || !gains && !s.keeps(to[0], turn) {
				continue
			}
			given[owner] = true
			if give(to[1:], gained || gains) {
				return true
			}
			given[owner] = false
		}
		return false
	}
	return give(group, false)
}

// pleases returns the first ring that pleases, of the fewest traders, or none.
func (s standing) pleases() []int {
	var grow func(ring []int, more int) []int
	// A ring is looked at from its least trader on only.
	grow = func(ring []int, more int) []int {
		last := ring[len(ring)-1]
		if more == 0 {
			if s.gains(last, s.held[ring[0]]) {
				return ring
			}
			return nil
		}
		for next := ring[0] + 1; next < len(s.held); next++ {
			if has(ring, next) || !s.gains(last, s.held[next]) {
				continue
			}
			if found := grow(append(ring, next), more-1); found != nil {
				return found
			}
		}
		return nil
	}
	for size := 2; size <= len(s.held); size++ {
		for first := range s.held {
			if found := grow([]int{first}, size-1); found != nil {
				return found
			}
		}
	}
	return nil
}
