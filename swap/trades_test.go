package swap_test

import (
	"cmp"
	"iter"
	"math/rand/v2"
	"slices"
	"testing"

	"shambles/api"
	"shambles/swap"
)

// on returns turns of stalls on a day.
func on(day int, stalls ...int) []api.Turn {
	var turns []api.Turn
	for _, s := range stalls {
		turns = append(turns, api.Turn{Stall: s, Day: day})
	}
	return turns
}

// trade is the trade T of the chapter's examples.
func trade() api.Trade {
	return owned(on(0, 0, 1, 2, 3), on(0, 1, 2), on(0, 0), on(0, 0, 1), on(0, 2, 3, 0))
}

// owned is the trade of these turns and lists.
func owned(owns []api.Turn, likes ...[]api.Turn) api.Trade {
	return api.Trade{Owns: owns, Likes: likes}
}

// changed is the trade T with a change.
func changed(change func(t *api.Trade)) api.Trade {
	t := trade()
	change(&t)
	return t
}

// long is a list of so many turns, from the last day on.
func long(many int) []api.Turn {
	var turns []api.Turn
	for i := range many {
		turns = append(turns, api.Turn{Stall: i % api.MaxLet, Day: api.MaxWeek - 1 - i/api.MaxLet})
	}
	return turns
}

// full is a trade with as much as there may be of everything: each trader likes the turn of the next one best, and its own least.
func full() api.Trade {
	t := api.Trade{Owns: long(api.MaxTraders)}
	for i := range t.Owns {
		list := slices.Concat(t.Owns[i+1:], t.Owns[:i], long(api.MaxLikes + 1)[api.MaxTraders:])
		t.Likes = append(t.Likes, list)
	}
	return t
}

// copied shares no memory with t.
func copied(t api.Trade) api.Trade {
	t.Owns, t.Likes = slices.Clone(t.Owns), slices.Clone(t.Likes)
	for i := range t.Likes {
		t.Likes[i] = slices.Clone(t.Likes[i])
	}
	return t
}

// same says whether trades are equal; a nil slice is equal to an empty one.
func same(a, b api.Trade) bool {
	return slices.Equal(a.Owns, b.Owns) && slices.EqualFunc(a.Likes, b.Likes, slices.Equal[[]api.Turn])
}

func shuffle(r *rand.Rand, turns []api.Turn) {
	r.Shuffle(len(turns), func(i, j int) { turns[i], turns[j] = turns[j], turns[i] })
}

// pickTrade returns a trade of at most so many traders, who like some turns of all traders and of nobody.
func pickTrade(r *rand.Rand, traders int) api.Trade {
	turns := slices.Concat(on(0, 0, 1, 2, 3, 4), on(6, 0, 1, 2, 3, 4))
	shuffle(r, turns)
	many := r.IntN(traders + 1)
	t := api.Trade{Owns: slices.Clone(turns[:many])}
	turns = turns[:min(len(turns), many+2)]
	for range many {
		var likes []api.Turn
		for _, i := range r.Perm(len(turns))[:r.IntN(len(turns)+1)] {
			likes = append(likes, turns[i])
		}
		t.Likes = append(t.Likes, likes)
	}
	return t
}

// eager is a trade in which each trader takes the turns of all others.
func eager(r *rand.Rand, x api.Trade) api.Trade {
	for i := range x.Likes {
		x.Likes[i] = slices.Concat(x.Owns[i+1:], x.Owns[:i])
		shuffle(r, x.Likes[i])
	}
	return x
}

// trades hands out T, and by turns trades of at most so many traders of all kinds, and eager ones.
func trades(many, traders int) iter.Seq[api.Trade] {
	return func(yield func(api.Trade) bool) {
		r := rand.New(rand.NewPCG(6, uint64(traders)))
		if !yield(trade()) {
			return
		}
		for range many / 2 {
			if !yield(pickTrade(r, traders)) || !yield(eager(r, pickTrade(r, traders))) {
				return
			}
		}
	}
}

// orders hands out all orders of some of the items.
func orders[T comparable](items []T) iter.Seq[[]T] {
	return func(yield func([]T) bool) {
		var add func(order []T) bool
		add = func(order []T) bool {
			if !yield(slices.Clone(order)) {
				return false
			}
			for _, item := range items {
				if !slices.Contains(order, item) && !add(append(order, item)) {
					return false
				}
			}
			return true
		}
		add(nil)
	}
}

// ordersOfAll hands out all orders of all items.
func ordersOfAll[T comparable](items []T) iter.Seq[[]T] {
	return func(yield func([]T) bool) {
		for order := range orders(items) {
			if len(order) == len(items) && !yield(order) {
				return
			}
		}
	}
}

// everybody returns all traders, ascending.
func everybody(t api.Trade) []int {
	var all []int
	for i := range t.Owns {
		all = append(all, i)
	}
	return all
}

// grade is how good a turn is for a trader: the less the better, and worst for all that it does not take.
func grade(t api.Trade, trader int, turn api.Turn) int {
	const worst = 99
	for i, x := range append(slices.Clone(t.Likes[trader]), t.Owns[trader]) {
		if x == turn {
			return i
		}
		if x == t.Owns[trader] {
			break
		}
	}
	return worst
}

// takes says whether a trader takes a turn: it is no worse than its own.
func takes(t api.Trade, trader int, turn api.Turn) bool {
	return grade(t, trader, turn) <= grade(t, trader, t.Owns[trader])
}

// likesMore says whether a trader likes a turn more than another one.
func likesMore(t api.Trade, trader int, turn, than api.Turn) bool {
	return grade(t, trader, turn) < grade(t, trader, than)
}

// isBlocking says whether a group blocks held turns: all exchanges among its traders are looked at.
func isBlocking(t api.Trade, held []api.Turn, group []int) bool {
	for owners := range ordersOfAll(group) {
		able, more := true, false
		for i, trader := range group {
			turn := t.Owns[owners[i]]
			able = able && takes(t, trader, turn) && !likesMore(t, trader, held[trader], turn)
			more = more || likesMore(t, trader, turn, held[trader])
		}
		if able && more {
			return true
		}
	}
	return false
}

// isPleasing says whether a ring pleases, with held turns.
func isPleasing(t api.Trade, held []api.Turn, ring []int) bool {
	for i, trader := range ring {
		turn := held[ring[(i+1)%len(ring)]]
		if !takes(t, trader, turn) || !likesMore(t, trader, turn, held[trader]) {
			return false
		}
	}
	return len(ring) >= 2
}

// first returns the shortest list, and of several the first one in lexicographic order.
func first(lists [][]int) []int {
	if len(lists) == 0 {
		return nil
	}
	return slices.MinFunc(lists, func(a, b []int) int { return cmp.Or(len(a)-len(b), slices.Compare(a, b)) })
}

// wantBlocks looks at all groups.
func wantBlocks(t api.Trade, held []api.Turn) []int {
	var found [][]int
	for set := range 1 << len(t.Owns) {
		group := slices.DeleteFunc(everybody(t), func(i int) bool { return set>>i&1 == 0 })
		if isBlocking(t, held, group) {
			found = append(found, group)
		}
	}
	return first(found)
}

// wantPleases looks at all rings.
func wantPleases(t api.Trade, held []api.Turn) []int {
	var found [][]int
	for ring := range orders(everybody(t)) {
		if len(ring) > 0 && ring[0] == slices.Min(ring) && isPleasing(t, held, ring) {
			found = append(found, ring)
		}
	}
	return first(found)
}

// swapped returns the turns after the swap, which has no error.
func swapped(t *testing.T, x api.Trade) []api.Turn {
	t.Helper()
	after, e := swap.Swap(x)
	if e != api.OK || len(after) != len(x.Owns) {
		t.Fatal(x, after, e)
	}
	return after
}
