package door

import (
	"slices"

	"shambles/api"
	"shambles/bounds"
)

// turn is a tick and a door.
type turn [2]int

// counts has what was counted in a tick, by a door; where nothing was counted nobody went.
type counts map[turn]api.Count

func countsOf(h api.House) counts {
	known := counts{}
	for _, c := range h.Counts {
		known[turn{c.Tick, c.Door}] = c
	}
	return known
}

// opposite returns what the numbers of a span are with their sign turned.
func opposite(s api.Span) api.Span { return api.Span{Lo: -s.Hi, Hi: -s.Lo} }

// changes returns for each tick how many more people may be inside after it than before.
func changes(h api.House) []api.Span {
	known := countsOf(h)
	more := make([]api.Span, h.Ticks)
	for tick := range more {
		for door := range h.Doors {
			c := known[turn{tick, door}]
			more[tick] = bounds.Sum(more[tick], c.In, opposite(c.Out))
		}
	}
	return more
}

// inside returns how many people may be inside at first, and after each tick, and whether the house may be.
func inside(h api.House) ([]api.Span, bool) {
	more := changes(h)
	people := []api.Span{h.First}
	for tick, change := range more {
		now := bounds.Sum(people[tick], change)
		if now.Hi < 0 {
			return nil, false
		}
		people = append(people, api.Span{Lo: max(0, now.Lo), Hi: now.Hi})
	}
	// Of those who are there later as many have to be there before as cannot have come meanwhile; but no number is too great for what comes later.
	for tick, change := range slices.Backward(more) {
		people[tick].Lo = max(people[tick].Lo, people[tick+1].Lo-change.Hi)
	}
	return people, true
}
