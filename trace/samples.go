package trace

import (
	"shambles/api"
	"shambles/sets"
)

// finding is in which batches there surely are goods of a suspect at the end, and in which there are none.
type finding struct{ sure, never set }

func findingOf(c *course, suspect int) finding {
	spans := c.reach(setOf(suspect))
	return finding{
		sure:  where(spans, func(_ int, s api.Span) bool { return s.Lo > 0 }),
		never: where(spans, func(_ int, s api.Span) bool { return s.Hi == 0 }),
	}
}

// apart returns the batches of which a sample tells the suspects of two findings apart.
func apart(f, g finding) set { return f.sure&g.never | f.never&g.sure }

// tellings returns for each two suspects the batches of which a sample tells them apart, and whether there is one for each two.
func tellings(c *course, suspects []int) ([]set, bool) {
	var telling []set
	var before []finding
	for _, suspect := range suspects {
		f := findingOf(c, suspect)
		for _, g := range before {
			batches := apart(f, g)
			if batches == 0 {
				return nil, false
			}
			telling = append(telling, batches)
		}
		before = append(before, f)
	}
	return telling, true
}

// fewest returns the set with the fewest batches that has some of each of the others, none of which is empty; of several the one whose list comes first.
func fewest(batches int, others []set) set {
	all := set(1)<<batches - 1
	best := all
candidates:
	for s := range all {
		for _, o := range others {
			if s&o == 0 {
				continue candidates
			}
		}
		if sets.FewestFirst(s, best) < 0 {
			best = s
		}
	}
	return best
}
