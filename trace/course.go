package trace

import (
	"iter"
	"slices"

	"shambles/api"
	"shambles/flows"
	"shambles/sets"
)

// outside is where the goods come from that batches have at first.
const outside = -1

// place is a batch from when so many moves are done, until another move takes some of it or brings some.
type place struct{ batch, since int }

// placeOf returns the place of a batch when so many moves are done.
func placeOf(n api.Net, batch, done int) place {
	for done > 0 && n.Moves[done-1].From != batch && n.Moves[done-1].To != batch {
		done--
	}
	return place{batch, done}
}

// edge says that so many grams go from one place to another one.
type edge struct {
	from, to place
	grams    int
}

// edges hands out how goods go: into each batch at first, and then, move by move, what is left, what is moved, and what is there already. As many grams come to a place as leave it, or stay there at the end: whatever goods are in a place, there is room for them from then on.
func edges(n api.Net) iter.Seq[edge] {
	return func(yield func(edge) bool) {
		for batch, grams := range n.Batches {
			if !yield(edge{place{batch: outside}, place{batch: batch}, grams}) {
				return
			}
		}
		holds := slices.Clone(n.Batches)
		for i, m := range n.Moves {
			from, to := placeOf(n, m.From, i), placeOf(n, m.To, i)
			rest, mixed := placeOf(n, m.From, i+1), placeOf(n, m.To, i+1)
			holds[m.From] -= m.Grams
			if !yield(edge{from, rest, holds[m.From]}) || !yield(edge{from, mixed, m.Grams}) || !yield(edge{to, mixed, holds[m.To]}) {
				return
			}
			holds[m.To] += m.Grams
		}
	}
}

// maxEdges is how many edges a net has at most.
const maxEdges = api.MaxBatches + 3*api.MaxMoves

// room is how many grams each edge takes.
type room [maxEdges]int

// course is a valid net over time: what each place has, and what flows between them.
type course struct {
	net   api.Net
	grams map[place]int
	flow  flows.Net[place]
	takes room
}

func courseOf(n api.Net) *course {
	c := &course{net: n, grams: map[place]int{}}
	next := 0
	for e := range edges(n) {
		c.grams[e.to] += e.grams
		c.flow.Join(e.from, e.to)
		c.takes[next] = e.grams
		next++
	}
	return c
}

// left returns the room that is left if only some origins have goods at first.
func (c *course) left(origins set) room {
	left := c.takes
	// The edges into batches are the first ones.
	for batch := range c.net.Batches {
		if !sets.Has(origins, batch) {
			left[batch] = 0
		}
	}
	return left
}

// most returns how many grams of some origins a place may have at most: as many as can flow there. All other goods of these origins have room elsewhere.
func (c *course) most(origins set, target place) int {
	left := c.left(origins)
	return c.flow.Most(place{batch: outside}, target, left[:])
}

// span returns the least and the greatest number of grams of some origins that a batch may have when so many moves are done.
func (c *course) span(origins set, batch, done int) api.Span {
	at := placeOf(c.net, batch, done)
	// There is least of these origins where there is most of all others.
	return api.Span{Lo: c.grams[at] - c.most(^origins, at), Hi: c.most(origins, at)}
}

// reach returns the span of each batch at the end.
func (c *course) reach(origins set) []api.Span {
	spans := make([]api.Span, len(c.net.Batches))
	for batch := range spans {
		spans[batch] = c.span(origins, batch, len(c.net.Moves))
	}
	return spans
}

// through returns how many grams of some origins each move may take.
func (c *course) through(origins set) []api.Span {
	spans := make([]api.Span, len(c.net.Moves))
	for i, m := range c.net.Moves {
		has := c.span(origins, m.From, i)
		stays := c.grams[placeOf(c.net, m.From, i)] - m.Grams
		spans[i] = api.Span{Lo: max(0, has.Lo-stays), Hi: min(has.Hi, m.Grams)}
	}
	return spans
}
