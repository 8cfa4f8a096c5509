package door_test

import (
	"iter"
	"math/rand/v2"
	"slices"
	"testing"

	"shambles/api"
	"shambles/door"
)

func span(low, high int) api.Span { return api.Span{Lo: low, Hi: high} }

func one(n int) api.Span { return span(n, n) }

// within says whether a span is within another one.
func within(s, other api.Span) bool { return other.Lo <= s.Lo && s.Hi <= other.Hi }

func total(numbers []int) int {
	sum := 0
	for _, n := range numbers {
		sum += n
	}
	return sum
}

// house is the house H of the chapter's examples.
func house() api.House {
	return api.House{
		Holds: []int{100, 50},
		Doors: []api.Door{{A: 0, B: -1, Flow: 20}, {A: 0, B: 1, Flow: 10}, {A: 1, B: -1, Flow: 5}},
		First: span(10, 15),
		Ticks: 3,
		Counts: []api.Count{
			{Tick: 0, Door: 0, In: span(20, 25), Out: span(0, 5)},
			{Tick: 1, Door: 0, In: span(5, 5), Out: span(10, 20)},
			{Tick: 2, Door: 2, In: span(0, 0), Out: span(30, 30)},
		},
	}
}

// changed is the house H with a change.
func changed(change func(h *api.House)) api.House {
	h := house()
	change(&h)
	return h
}

// full is a house with as much as there may be of everything.
func full() api.House {
	h := api.House{Holds: slices.Repeat([]int{10000}, 4), First: one(10000), Ticks: 12}
	for i := range 4 {
		h.Doors = append(h.Doors, api.Door{A: i, B: -1, Flow: 10000})
	}
	h.Doors = append(h.Doors, api.Door{A: -1, B: 3, Flow: 10000})
	for i := range 24 {
		h.Counts = append(h.Counts, api.Count{Tick: i / 2, Door: 3 + i%2, In: one(10000), Out: one(10000)})
	}
	return h
}

// row is a house with its halls one behind the other, each with a door to the one before, the first one with a door to the outside.
func row(flows ...int) api.House {
	var h api.House
	for i, flow := range flows {
		h.Holds = append(h.Holds, 10000)
		h.Doors = append(h.Doors, api.Door{A: i, B: i - 1, Flow: flow})
	}
	return h
}

// copied shares no memory with h.
func copied(h api.House) api.House {
	h.Holds, h.Doors, h.Counts = slices.Clone(h.Holds), slices.Clone(h.Doors), slices.Clone(h.Counts)
	return h
}

// same says whether houses are equal; a nil slice is equal to an empty one.
func same(h, g api.House) bool {
	return slices.Equal(h.Holds, g.Holds) && slices.Equal(h.Doors, g.Doors) && h.First == g.First && h.Ticks == g.Ticks && slices.Equal(h.Counts, g.Counts)
}

// empty says whether a house is a zero value.
func empty(h api.House) bool { return same(h, api.House{}) }

// size is how large houses are at most: halls, doors, people in a hall and at first, people that a door takes or a count has, ticks, and counts.
type size struct{ halls, doors, people, flow, ticks, counts int }

var (
	small = size{3, 4, 4, 2, 3, 4}
	great = size{4, 5, 10000, 3000, 12, 24}
)

// pickSpan returns a span of numbers that are at most so great; quite often it has one number only.
func pickSpan(r *rand.Rand, most int) api.Span {
	low := r.IntN(most + 1)
	if r.IntN(3) == 0 {
		return one(low)
	}
	return span(low, low+r.IntN(most-low+1))
}

// pickHouse returns a house of a size.
func pickHouse(r *rand.Rand, s size) api.House {
	h := api.House{First: pickSpan(r, s.people), Ticks: r.IntN(s.ticks + 1)}
	for range 1 + r.IntN(s.halls) {
		h.Holds = append(h.Holds, r.IntN(s.people+1))
	}
	for range r.IntN(s.doors + 1) {
		d := api.Door{A: r.IntN(len(h.Holds)+1) - 1, B: r.IntN(len(h.Holds)+1) - 1, Flow: r.IntN(s.flow + 1)}
		if d.A != d.B {
			h.Doors = append(h.Doors, d)
		}
	}
	for range r.IntN(6*s.counts + 1) {
		c := pickCount(r, h, s)
		if next := append(slices.Clone(h.Counts), c); len(next) <= s.counts && door.Check(counted(h, next)) == api.OK {
			h.Counts = next
		}
	}
	return h
}

// pickCount returns a count that may be one of a house. Quite often so many go out that the house cannot be.
func pickCount(r *rand.Rand, h api.House, s size) api.Count {
	return api.Count{Tick: r.IntN(h.Ticks + 1), Door: r.IntN(len(h.Doors) + 1), In: pickSpan(r, s.flow), Out: pickSpan(r, s.flow*(1+r.IntN(3)))}
}

// counted is the house with other counts.
func counted(h api.House, counts []api.Count) api.House {
	h.Counts = counts
	return h
}

// houses hands out so many houses of a size.
func houses(many int, s size) iter.Seq[api.House] {
	return func(yield func(api.House) bool) {
		r := rand.New(rand.NewPCG(9, uint64(many)))
		for range many {
			if !yield(pickHouse(r, s)) {
				return
			}
		}
	}
}

// truths hands out how many people may be inside at first, and after each tick: a list for all numbers that may be at first, and that may have gone in and out at each count.
func truths(h api.House) iter.Seq[[]int] {
	return func(yield func([]int) bool) {
		for first := h.First.Lo; first <= h.First.Hi; first++ {
			if !follow(h, []int{first}, yield) {
				return
			}
		}
	}
}

// follow hands out all lists of people that begin with one.
func follow(h api.House, people []int, yield func([]int) bool) bool {
	tick := len(people) - 1
	if tick == h.Ticks {
		return yield(slices.Clone(people))
	}
	return count(h, tick, 0, func(more int) bool {
		now := people[tick] + more
		return now < 0 || follow(h, append(slices.Clone(people), now), yield)
	})
}

// count hands out how many more people may have come than gone in a tick, by all counts from one on.
func count(h api.House, tick, from int, yield func(more int) bool) bool {
	if from == len(h.Counts) {
		return yield(0)
	}
	c := h.Counts[from]
	if c.Tick != tick {
		return count(h, tick, from+1, yield)
	}
	for in := c.In.Lo; in <= c.In.Hi; in++ {
		for out := c.Out.Lo; out <= c.Out.Hi; out++ {
			if !count(h, tick, from+1, func(more int) bool { return yield(more + in - out) }) {
				return false
			}
		}
	}
	return true
}

// lists hands out all ascending lists of numbers less than many.
func lists(many int) iter.Seq[[]int] {
	return func(yield func([]int) bool) {
		for set := range 1 << many {
			var list []int
			for n := range many {
				if set>>n&1 == 1 {
					list = append(list, n)
				}
			}
			if !yield(list) {
				return
			}
		}
	}
}

// spreads hands out all ways in which so many people may be spread over halls that hold so many.
func spreads(holds []int, people int) iter.Seq[[]int] {
	return func(yield func([]int) bool) {
		var add func(spread []int, left int) bool
		add = func(spread []int, left int) bool {
			if len(spread) == len(holds) {
				return left > 0 || yield(slices.Clone(spread))
			}
			for n := range min(left, holds[len(spread)]) + 1 {
				if !add(append(spread, n), left-n) {
					return false
				}
			}
			return true
		}
		add(nil, people)
	}
}

// never is a number of ticks in which nobody can leave.
const never = 13

// left returns what Leave says, never if it is too late.
func left(t *testing.T, h api.House, people, closed []int) int {
	t.Helper()
	ticks, e := door.Leave(h, people, closed)
	if e == api.ErrLate && ticks == 0 {
		return never
	}
	if e != api.OK {
		t.Fatal(h, people, closed, ticks, e)
	}
	return ticks
}

// admitted returns what Admit says.
func admitted(t *testing.T, h api.House, ticks int, closed []int) int {
	t.Helper()
	people, e := door.Admit(h, ticks, closed)
	if e != api.OK || people < 0 || people > total(h.Holds) {
		t.Fatal(h, ticks, closed, people, e)
	}
	return people
}
