package swap

import (
	"maps"
	"slices"

	"shambles/api"
)

// owners is who owns each turn of the traders that are left.
type owners map[api.Turn]int

// rings returns all rings of a valid trade, round by round.
func rings(t api.Trade) [][]int {
	left := owners{}
	for trader, own := range t.Owns {
		left[own] = trader
	}
	taken := tastesOf(t)
	var all [][]int
	for len(left) > 0 {
		made := left.round(taken)
		for _, ring := range made {
			for _, trader := range ring {
				delete(left, t.Owns[trader])
			}
		}
		all = append(all, made...)
	}
	return all
}

// round returns the rings of the traders that are left, by their least traders.
func (left owners) round(taken tastes) [][]int {
	var made [][]int
traders:
	for _, first := range slices.Sorted(maps.Values(left)) {
		ring := []int{first}
		for next := left.best(taken[first]); next != first; next = left.best(taken[next]) {
			// The first one is not in a ring, or is not its least trader.
			if next < first || has(ring, next) {
				continue traders
			}
			ring = append(ring, next)
		}
		made = append(made, ring)
	}
	return made
}

// best returns the owner of the first turn of a list that is left. There is one: a trader that is left takes its own turn.
func (left owners) best(list []api.Turn) int {
	at := slices.IndexFunc(list, func(turn api.Turn) bool {
		_, ok := left[turn]
		return ok
	})
	return left[list[at]]
}
