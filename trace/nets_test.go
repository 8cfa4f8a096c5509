package trace_test

import (
	"iter"
	"math/rand/v2"
	"slices"

	"shambles/api"
)

func span(low, high int) api.Span { return api.Span{Lo: low, Hi: high} }

// net is the net N of the chapter's examples.
func net() api.Net {
	return api.Net{
		Batches: []int{100, 50, 0, 20, 0, 0},
		Moves: []api.Move{
			{From: 0, To: 2, Grams: 60},
			{From: 1, To: 2, Grams: 30},
			{From: 2, To: 4, Grams: 50},
			{From: 3, To: 4, Grams: 10},
			{From: 2, To: 5, Grams: 40},
		},
	}
}

// changed is the net N with a change.
func changed(change func(n *api.Net)) api.Net {
	n := net()
	change(&n)
	return n
}

// ring is a net in which goods come back.
func ring() api.Net {
	return api.Net{Batches: []int{10, 10}, Moves: []api.Move{{From: 0, To: 1, Grams: 6}, {From: 1, To: 0, Grams: 8}, {From: 0, To: 1, Grams: 12}}}
}

// full is a net with as much as there may be of everything: all goods come together, and go on.
func full() api.Net {
	n := api.Net{Batches: slices.Repeat([]int{1000000}, 8)}
	for i := range 7 {
		n.Moves = append(n.Moves, api.Move{From: i, To: 7, Grams: 1000000})
	}
	for i := range 5 {
		n.Moves = append(n.Moves, api.Move{From: (7 + i) % 8, To: i, Grams: 8000000})
	}
	return n
}

// copied shares no memory with n.
func copied(n api.Net) api.Net {
	return api.Net{Batches: slices.Clone(n.Batches), Moves: slices.Clone(n.Moves)}
}

// same says whether nets are equal; a nil slice is equal to an empty one.
func same(n, m api.Net) bool {
	return slices.Equal(n.Batches, m.Batches) && slices.Equal(n.Moves, m.Moves)
}

// empty says whether a net is a zero value.
func empty(n api.Net) bool { return same(n, api.Net{}) }

// held returns what batches hold when so many moves are done.
func held(n api.Net, done int) []int {
	holds := slices.Clone(n.Batches)
	for _, m := range n.Moves[:done] {
		holds[m.From] -= m.Grams
		holds[m.To] += m.Grams
	}
	return holds
}

// pickNet returns a net with so many batches at most, each of so many grams at most, and so many moves at most.
func pickNet(r *rand.Rand, batches, grams, moves int) api.Net {
	var n api.Net
	for range 1 + r.IntN(batches) {
		n.Batches = append(n.Batches, r.IntN(grams+1))
	}
	for range r.IntN(4*moves + 1) {
		m := api.Move{From: r.IntN(len(n.Batches)), To: r.IntN(len(n.Batches))}
		left := held(n, len(n.Moves))[m.From]
		if m.From == m.To || left == 0 || len(n.Moves) == moves {
			continue
		}
		// Quite often all of it goes.
		m.Grams = min(left, 1+r.IntN(left+left/3+1))
		n.Moves = append(n.Moves, m)
	}
	return n
}

// nets hands out N, ring, and others with so many batches, grams and moves at most.
func nets(many, batches, grams, moves int) iter.Seq[api.Net] {
	return func(yield func(api.Net) bool) {
		if !yield(net()) || !yield(ring()) {
			return
		}
		r := rand.New(rand.NewPCG(5, uint64(many)))
		for range many {
			if !yield(pickNet(r, batches, grams, moves)) {
				return
			}
		}
	}
}

// lists hands out all ascending lists of numbers less than many, those with fewer numbers first, and of as many the first ones in lexicographic order.
func lists(many int) iter.Seq[[]int] {
	return func(yield func([]int) bool) {
		for size := range many + 1 {
			if !extend(nil, many, size, yield) {
				return
			}
		}
	}
}

// extend hands out all lists that begin with one, and have so many more numbers.
func extend(list []int, many, more int, yield func([]int) bool) bool {
	if more == 0 {
		return yield(slices.Clone(list))
	}
	first := 0
	if len(list) > 0 {
		first = list[len(list)-1] + 1
	}
	for i := first; i < many; i++ {
		if !extend(append(list, i), many, more-1, yield) {
			return false
		}
	}
	return true
}

// others returns the numbers less than many that are not in a list.
func others(many int, list []int) []int {
	var rest []int
	for i := range many {
		if !slices.Contains(list, i) {
			rest = append(rest, i)
		}
	}
	return rest
}

// truth is how the goods of some origins truly went: what each batch has of them, what each move took, and which batches have, or have had, some.
type truth struct {
	has  [api.MaxBatches]int
	took [api.MaxMoves]int
	had  [api.MaxBatches]bool
}

// truths hands out all ways in which the goods of some origins may truly go.
func truths(n api.Net, origins []int) iter.Seq[truth] {
	return func(yield func(truth) bool) {
		var t truth
		for _, origin := range origins {
			t.has[origin] = n.Batches[origin]
			t.had[origin] = n.Batches[origin] > 0
		}
		follow(n, t, 0, yield)
	}
}

// follow hands out all ways in which goods go on when so many moves are done.
func follow(n api.Net, t truth, done int, yield func(truth) bool) bool {
	if done == len(n.Moves) {
		return yield(t)
	}
	m := n.Moves[done]
	good := held(n, done)[m.From] - t.has[m.From]
	for took := range m.Grams + 1 {
		if took > t.has[m.From] || m.Grams-took > good {
			continue
		}
		now := t
		now.took[done] = took
		now.has[m.From] -= took
		now.has[m.To] += took
		now.had[m.To] = now.had[m.To] || took > 0
		if !follow(n, now, done+1, yield) {
			return false
		}
	}
	return true
}

// numbers is which numbers there are of something in truths.
type numbers map[int]bool

// all says whether these are just all numbers of a span.
func (s numbers) all(x api.Span) bool {
	for i := x.Lo; i <= x.Hi; i++ {
		if !s[i] {
			return false
		}
	}
	return len(s) == x.Hi-x.Lo+1
}

// found is what there may be of some origins, taken from all truths.
type found struct {
	has  [api.MaxBatches]numbers
	took [api.MaxMoves]numbers
	had  [api.MaxBatches]bool
}

// find goes through all truths of some origins.
func find(n api.Net, origins []int) found {
	var f found
	for batch := range f.has {
		f.has[batch] = numbers{}
	}
	for move := range f.took {
		f.took[move] = numbers{}
	}
	for t := range truths(n, origins) {
		for batch := range n.Batches {
			f.has[batch][t.has[batch]] = true
			f.had[batch] = f.had[batch] || t.had[batch]
		}
		for move := range n.Moves {
			f.took[move][t.took[move]] = true
		}
	}
	return f
}
