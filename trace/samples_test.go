package trace_test

import (
	"slices"
	"testing"

	"shambles/api"
	"shambles/trace"
)

// P5.4: the examples of Samples, and its edges.
func TestSamples(t *testing.T) {
	// Two boats whose fish come into one stall, of which a kitchen takes nearly all: it surely has some of both.
	both := api.Net{Batches: []int{10, 10, 0, 0}, Moves: []api.Move{{From: 0, To: 2, Grams: 10}, {From: 1, To: 2, Grams: 10}, {From: 2, To: 3, Grams: 15}}}
	// Three boats, two kitchens: the first one gets of the first two, the second one of the last two.
	three := api.Net{Batches: []int{4, 4, 4, 0, 0}, Moves: []api.Move{{From: 0, To: 3, Grams: 4}, {From: 1, To: 3, Grams: 2}, {From: 1, To: 4, Grams: 2}, {From: 2, To: 4, Grams: 4}}}
	// One boat comes as a whole into a stall that surely has some of it, and only perhaps of the other one.
	perhaps := api.Net{Batches: []int{9, 2, 0, 0}, Moves: []api.Move{{From: 0, To: 2, Grams: 9}, {From: 1, To: 2, Grams: 2}, {From: 2, To: 3, Grams: 4}}}
	for i, c := range []struct {
		n        api.Net
		suspects []int
		want     []int
		e        api.Errno
	}{
		{net(), []int{0, 3}, []int{0}, api.OK},
		{net(), []int{0, 1, 3}, []int{0, 1}, api.OK},
		{net(), []int{0}, nil, api.OK},
		{net(), []int{4}, nil, api.OK},
		{net(), nil, nil, api.OK},
		{net(), []int{2, 4}, nil, api.ErrMissing},
		{net(), []int{0, 2, 4}, nil, api.ErrMissing},
		{net(), []int{0, 2}, []int{0}, api.OK},
		{net(), []int{2, 3}, []int{3}, api.OK},
		{both, []int{0, 1}, nil, api.ErrMissing},
		{both, []int{0, 3}, []int{3}, api.OK},
		{both, []int{0, 1, 3}, nil, api.ErrMissing},
		{three, []int{0, 1}, []int{4}, api.OK},
		{three, []int{0, 2}, []int{3}, api.OK},
		{three, []int{1, 2}, []int{3}, api.OK},
		{three, []int{0, 1, 2}, []int{3, 4}, api.OK},
		{three, []int{0, 1, 2, 3}, []int{3, 4}, api.OK},
		// In the batches 2 and 3 there surely is some of 0, but there may be some of 1.
		{perhaps, []int{0, 1}, nil, api.ErrMissing},
		{perhaps, []int{0, 3}, []int{2}, api.OK},
		{perhaps, []int{1, 3}, nil, api.ErrMissing},
		{api.Net{Batches: []int{1, 0}}, []int{0, 1}, []int{0}, api.OK},
		{api.Net{Batches: []int{0, 1}}, []int{0, 1}, []int{1}, api.OK},
		{api.Net{Batches: []int{1, 1}}, []int{0, 1}, []int{0}, api.OK},
		{api.Net{Batches: []int{1, 1, 1, 1, 1, 1, 1, 1}}, []int{0, 1, 2, 3, 4, 5, 6, 7}, []int{0, 1, 2, 3, 4, 5, 6}, api.OK},
		{api.Net{Batches: []int{1, 1, 1, 1, 1, 1, 1, 1}}, []int{1, 3, 6}, []int{1, 3}, api.OK},
	} {
		if list, e := trace.Samples(c.n, c.suspects); e != c.e || !slices.Equal(list, c.want) {
			t.Error(i, list, e)
		}
	}
}

// tells says whether a sample of a batch tells two origins apart, by what is found in all truths of each of them.
func tells(batch int, a, b found) bool {
	sure := func(f found) bool { return !f.has[batch][0] }
	never := func(f found) bool { return f.has[batch].all(span(0, 0)) }
	return sure(a) && never(b) || never(a) && sure(b)
}

// telling says whether samples of batches tell all suspects apart, each two of them.
func telling(list []int, suspects []found) bool {
	for i, a := range suspects {
		for _, b := range suspects[:i] {
			if !slices.ContainsFunc(list, func(batch int) bool { return tells(batch, a, b) }) {
				return false
			}
		}
	}
	return true
}

// P5.4, P5.12: the samples tell all suspects apart; no fewer do, nor as many that come before: all lists are looked at, and all truths.
func TestFewest(t *testing.T) {
	sizes := map[int]int{}
	for n := range nets(600, 5, 4, 6) {
		if n.Batches[0] > 10 {
			continue
		}
		var each []found
		for origin := range n.Batches {
			each = append(each, find(n, []int{origin}))
		}
		for suspects := range lists(len(n.Batches)) {
			var all []found
			for _, suspect := range suspects {
				all = append(all, each[suspect])
			}
			want, due, size := []int(nil), api.ErrMissing, -1
			for list := range lists(len(n.Batches)) {
				if telling(list, all) {
					want, due, size = list, api.OK, len(list)
					break
				}
			}
			if list, e := trace.Samples(n, suspects); e != due || !slices.Equal(list, want) {
				t.Fatal(n, suspects, list, e, want, due)
			}
			sizes[size]++
		}
	}
	if sizes[-1] < 500 || sizes[1] < 500 || sizes[2] < 200 || sizes[3] < 20 {
		t.Error("few lists of a kind:", sizes)
	}
}
