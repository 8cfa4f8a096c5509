package swap

import (
	"slices"

	"shambles/api"
)

// tastes has for each trader the turns that it takes, the best one first: the last one is its own.
type tastes [][]api.Turn

func tastesOf(t api.Trade) tastes {
	all := make(tastes, len(t.Owns))
	for trader, own := range t.Owns {
		likes := t.Likes[trader]
		all[trader] = append(slices.Clone(likes[:place(likes, own)]), own)
	}
	return all
}

// prefers says whether a trader takes a turn and likes it more than another one. Those that it does not take have one place, behind all others.
func (all tastes) prefers(trader int, turn, than api.Turn) bool {
	return place(all[trader], turn) < place(all[trader], than)
}

// place returns the first place of an item in a list, or the place behind the last one if it is not there.
func place[T comparable](list []T, item T) int {
	for i, other := range list {
		if other == item {
			return i
		}
	}
	return len(list)
}

// has says whether an item is in a list.
func has[T comparable](list []T, item T) bool { return place(list, item) < len(list) }
