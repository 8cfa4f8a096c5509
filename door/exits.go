package door

import (
	"iter"
	"slices"

	"shambles/api"
	"shambles/flows"
)

// passage leads from a hall to another one, or outside: so many people can take it in one tick.
type passage struct{ from, to, flow int }

// exits is how people leave so many halls: by passages. To stay in a hall is a passage, too: it leads from the hall to itself.
type exits struct {
	halls    int
	passages []passage
}

// everybody is as many people as there may be in all halls together.
const everybody = api.MaxHalls * api.MaxPeople

// exitsOf returns the exits of a valid house some of whose doors are closed.
func exitsOf(h api.House, closed []int) exits {
	x := exits{halls: len(h.Holds)}
	for hall := range h.Holds {
		x.passages = append(x.passages, passage{hall, hall, everybody})
	}
	for door, d := range h.Doors {
		if !slices.Contains(closed, door) {
			x.passages = append(x.passages, passage{d.A, d.B, d.Flow}, passage{d.B, d.A, d.Flow})
		}
	}
	// Whoever is outside stays there.
	x.passages = slices.DeleteFunc(x.passages, func(p passage) bool { return p.from == outside })
	return x
}

// spot is where people are after so many ticks; outside it does not matter when.
type spot struct{ hall, tick int }

// origin is where all people come from, before the first tick.
const origin = outside - 1

func spotOf(hall, tick int) spot {
	if hall == outside {
		return spot{hall: outside}
	}
	return spot{hall, tick}
}

// way says that so many people can go from one spot to another one.
type way struct {
	from, to spot
	people   int
}

// ways hands out the ways of people through time, tick by tick.
func (x exits) ways(ticks int) iter.Seq[way] {
	return func(yield func(way) bool) {
		for tick := range ticks {
			for _, p := range x.passages {
				if !yield(way{spotOf(p.from, tick), spotOf(p.to, tick+1), p.flow}) {
					return
				}
			}
		}
	}
}

// flight is all ways through some ticks, behind one into each hall at first.
type flight struct {
	net flows.Net[spot]
	// How many people each way takes, but for those into the halls at first.
	takes []int
}

func (x exits) flight(ticks int) *flight {
	f := &flight{}
	for hall := range x.halls {
		f.net.Join(spot{hall: origin}, spotOf(hall, 0))
	}
	for w := range x.ways(ticks) {
		f.net.Join(w.from, w.to)
		f.takes = append(f.takes, w.people)
	}
	return f
}

// out returns how many people, told hall by hall, can be outside at last.
func (f *flight) out(people []int) int {
	return f.net.Most(spot{hall: origin}, spot{hall: outside}, slices.Concat(people, f.takes))
}

// admits returns the greatest number of people that is safe if halls hold so many.
func (f *flight) admits(holds []int) int {
	most := total(holds...)
	// If some people cannot all leave, there are halls with more of them than can leave from there, even if nobody else is inside. So it is enough to look at some halls that are full while all others are empty: if not all of these people can leave, one more than can is too many. Halls that there are not change nothing.
	for s := range all + 1 {
		people := crowd(holds, s.has)
		if out := f.out(people); out < total(people...) {
			most = min(most, out)
		}
	}
	return most
}

// crowd returns the people in each hall if some halls, as told by full, are full, and all others are empty.
func crowd(holds []int, full func(hall int) bool) []int {
	people := make([]int, len(holds))
	for hall, many := range holds {
		if full(hall) {
			people[hall] = many
		}
	}
	return people
}

// total returns the sum of numbers.
func total(numbers ...int) int {
	sum := 0
	for _, n := range numbers {
		sum += n
	}
	return sum
}
