package trace_test

import (
	"math/rand/v2"
	"slices"
	"testing"

	"shambles/api"
	"shambles/trace"
)

// bits is a set of batches, a bit for each of them.
func bits(list ...int) int {
	set := 0
	for _, batch := range list {
		set |= 1 << batch
	}
	return set
}

// mosts returns for each set of batches how many grams of origins they have together at most when so many moves are done. A move changes this only for sets with one end of it: of what is in its one end no more than is not moved can stay, no more than is moved can come to the other one.
func mosts(n api.Net, origins []int, done int) []int {
	most := make([]int, 1<<len(n.Batches))
	for set := range most {
		for _, origin := range origins {
			if set&bits(origin) != 0 {
				most[set] += n.Batches[origin]
			}
		}
	}
	for i, m := range n.Moves[:done] {
		before := slices.Clone(most)
		from, to := bits(m.From), bits(m.To)
		stays := held(n, i)[m.From] - m.Grams
		for set := range most {
			switch {
			case set&from != 0 && set&to == 0:
				most[set] = min(before[set], before[set&^from]+stays)
			case set&from == 0 && set&to != 0:
				most[set] = min(before[set|from], before[set]+m.Grams)
			}
		}
	}
	return most
}

// reached returns the span of a batch when so many moves are done, taken from mosts.
func reached(n api.Net, origins []int, batch, done int) api.Span {
	most := mosts(n, origins, done)
	all := len(most) - 1
	return span(most[all]-most[all&^bits(batch)], most[bits(batch)])
}

// P5.2, P5.7: the numbers of great nets, found in another way.
func TestGreatNets(t *testing.T) {
	open := 0
	r := rand.New(rand.NewPCG(5, 7))
	for n := range nets(700, 8, 1000000, 12) {
		origins := slices.DeleteFunc(others(len(n.Batches), nil), func(int) bool { return r.IntN(2) == 0 })
		reach, e := trace.Reach(n, origins)
		through, f := trace.Through(n, origins)
		if e != api.OK || f != api.OK {
			t.Fatal(n, origins, e, f)
		}
		for batch, s := range reach {
			if s != reached(n, origins, batch, len(n.Moves)) {
				t.Fatal(n, origins, batch, s)
			}
		}
		for i, m := range n.Moves {
			has := reached(n, origins, m.From, i)
			stays := held(n, i)[m.From] - m.Grams
			if through[i] != span(max(0, has.Lo-stays), min(has.Hi, m.Grams)) {
				t.Fatal(n, origins, i, through[i], has)
			}
			if through[i].Lo < through[i].Hi {
				open++
			}
		}
	}
	if open < 500 {
		t.Error("few moves that may take more or less:", open)
	}
}

// anyTruth returns one way in which the goods of origins may truly go: each move takes as few of them as it can, as many, or some number between.
func anyTruth(r *rand.Rand, n api.Net, origins []int) truth {
	var t truth
	for _, origin := range origins {
		t.has[origin] = n.Batches[origin]
		t.had[origin] = n.Batches[origin] > 0
	}
	for i, m := range n.Moves {
		good := held(n, i)[m.From] - t.has[m.From]
		low, high := max(0, m.Grams-good), min(m.Grams, t.has[m.From])
		took := []int{low, high, low + r.IntN(high-low+1)}[r.IntN(3)]
		t.took[i] = took
		t.has[m.From] -= took
		t.has[m.To] += took
		t.had[m.To] = t.had[m.To] || took > 0
	}
	return t
}

func within(n int, s api.Span) bool { return s.Lo <= n && n <= s.Hi }

// P5.6: however goods truly go, all is within what is said, in great nets too.
func TestTrueInGreatNets(t *testing.T) {
	r := rand.New(rand.NewPCG(5, 6))
	for n := range nets(500, 8, 1000000, 12) {
		origins := slices.DeleteFunc(others(len(n.Batches), nil), func(int) bool { return r.IntN(2) == 0 })
		reach, _ := trace.Reach(n, origins)
		through, _ := trace.Through(n, origins)
		recall, _ := trace.Recall(n, origins)
		for range 20 {
			u := anyTruth(r, n, origins)
			for batch, s := range reach {
				if !within(u.has[batch], s) || u.had[batch] && !slices.Contains(recall, batch) {
					t.Fatal(n, origins, batch, s, recall, u)
				}
			}
			for move, s := range through {
				if !within(u.took[move], s) {
					t.Fatal(n, origins, move, s, u)
				}
			}
		}
	}
}

func sum(list []int) int {
	total := 0
	for _, n := range list {
		total += n
	}
	return total
}

// P5.8: what batches hold at the end is what they had at first; of all origins together each batch has just what it holds.
func TestKept(t *testing.T) {
	for n := range nets(500, 8, 1000000, 12) {
		holds, e := trace.Holds(n)
		if e != api.OK || sum(holds) != sum(n.Batches) || !slices.Equal(holds, held(n, len(n.Moves))) {
			t.Fatal(n, holds, e)
		}
		all := others(len(n.Batches), nil)
		reach, e := trace.Reach(n, all)
		through, f := trace.Through(n, all)
		if e != api.OK || f != api.OK {
			t.Fatal(n, e, f)
		}
		for batch, s := range reach {
			if s != span(holds[batch], holds[batch]) {
				t.Fatal(n, batch, s)
			}
		}
		for i, m := range n.Moves {
			if through[i] != span(m.Grams, m.Grams) {
				t.Fatal(n, i, through[i])
			}
		}
	}
}

// P5.9: what may be at most of some origins, and what must be at least of all others, is together what a batch holds.
func TestParts(t *testing.T) {
	for n := range nets(200, 6, 1000, 12) {
		holds, _ := trace.Holds(n)
		for origins := range lists(len(n.Batches)) {
			some, e := trace.Reach(n, origins)
			rest, f := trace.Reach(n, others(len(n.Batches), origins))
			if e != api.OK || f != api.OK {
				t.Fatal(n, origins, e, f)
			}
			for batch := range holds {
				if some[batch].Hi+rest[batch].Lo != holds[batch] || some[batch].Lo+rest[batch].Hi != holds[batch] {
					t.Fatal(n, origins, batch, some, rest, holds)
				}
			}
		}
	}
}

// P5.10: with more origins no number of Reach is less.
func TestMoreOrigins(t *testing.T) {
	more := 0
	for n := range nets(200, 6, 1000, 12) {
		for origins := range lists(len(n.Batches)) {
			before, e := trace.Reach(n, origins)
			for _, origin := range others(len(n.Batches), origins) {
				after, f := trace.Reach(n, slices.Sorted(slices.Values(append(slices.Clone(origins), origin))))
				if e != api.OK || f != api.OK {
					t.Fatal(n, origins, e, f)
				}
				for batch := range before {
					if after[batch].Lo < before[batch].Lo || after[batch].Hi < before[batch].Hi {
						t.Fatal(n, origins, origin, batch, before, after)
					}
					if after[batch] != before[batch] {
						more++
					}
				}
			}
		}
	}
	if more < 1000 {
		t.Error("few numbers that are greater:", more)
	}
}

// P5.11: Origins of a batch are just those of whose goods, alone, Reach says that it may have some.
func TestBack(t *testing.T) {
	for n := range nets(500, 8, 1000, 12) {
		from := make([][]int, len(n.Batches))
		for origin := range n.Batches {
			reach, e := trace.Reach(n, []int{origin})
			if e != api.OK {
				t.Fatal(n, origin, e)
			}
			for batch, s := range reach {
				if s.Hi > 0 {
					from[batch] = append(from[batch], origin)
				}
			}
		}
		for batch := range n.Batches {
			if list, e := trace.Origins(n, batch); e != api.OK || !slices.Equal(list, from[batch]) {
				t.Fatal(n, batch, list, e)
			}
		}
	}
}
