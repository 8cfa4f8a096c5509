package trace_test

import (
	"slices"
	"testing"

	"shambles/api"
	"shambles/cold"
	"shambles/trace"
)

// P5.1: the example of Holds, and its edges.
func TestHolds(t *testing.T) {
	for i, c := range []struct {
		n    api.Net
		want []int
	}{
		{net(), []int{40, 20, 0, 10, 60, 40}},
		{ring(), []int{0, 20}},
		{full(), []int{0, 0, 0, 0, 8000000, 0, 0, 0}},
		{api.Net{Batches: []int{0}}, []int{0}},
		{api.Net{Batches: []int{3, 1000000}}, []int{3, 1000000}},
	} {
		if holds, e := trace.Holds(c.n); !slices.Equal(holds, c.want) || e != api.OK {
			t.Error(i, holds, e)
		}
	}
}

type reachCase struct {
	name    string
	n       api.Net
	origins []int
	reach   []api.Span
	through []api.Span
	recall  []int
}

// P5.2, P5.3: the examples of Reach, Through and Recall, and their edges.
func TestReach(t *testing.T) {
	less := changed(func(n *api.Net) { n.Moves[4].Grams = 30 })
	once := api.Net{Batches: []int{10, 10}, Moves: ring().Moves[:2]}
	large := make([]api.Span, 8)
	large[4] = span(1000000, 1000000)
	for _, c := range []reachCase{
		{"N, 1", net(), []int{1}, []api.Span{{}, span(20, 20), {}, {}, span(0, 30), span(0, 30)}, []api.Span{{}, span(30, 30), span(0, 30), {}, span(0, 30)}, []int{1, 2, 4, 5}},
		{"N, 0", net(), []int{0}, []api.Span{span(40, 40), {}, {}, {}, span(20, 50), span(10, 40)}, []api.Span{span(60, 60), {}, span(20, 50), {}, span(10, 40)}, []int{0, 2, 4, 5}},
		{"N, 3", net(), []int{3}, []api.Span{{}, {}, {}, span(10, 10), span(10, 10), {}}, []api.Span{{}, {}, {}, span(10, 10), {}}, []int{3, 4}},
		{"N, two", net(), []int{0, 1}, []api.Span{span(40, 40), span(20, 20), {}, {}, span(50, 50), span(40, 40)}, []api.Span{span(60, 60), span(30, 30), span(50, 50), {}, span(40, 40)}, []int{0, 1, 2, 4, 5}},
		{"N, no goods", net(), []int{2, 4, 5}, make([]api.Span, 6), make([]api.Span, 5), nil},
		{"N, no origins", net(), nil, make([]api.Span, 6), make([]api.Span, 5), nil},
		{"less is moved", less, []int{1}, []api.Span{{}, span(20, 20), span(0, 10), {}, span(0, 30), span(0, 30)}, []api.Span{{}, span(30, 30), span(0, 30), {}, span(0, 30)}, []int{1, 2, 4, 5}},
		{"ring, 0", ring(), []int{0}, []api.Span{{}, span(10, 10)}, []api.Span{span(6, 6), span(0, 6), span(4, 10)}, []int{0, 1}},
		{"ring, 1", ring(), []int{1}, []api.Span{{}, span(10, 10)}, []api.Span{{}, span(2, 8), span(2, 8)}, []int{0, 1}},
		{"ring, less one move", once, []int{0}, []api.Span{span(4, 10), span(0, 6)}, []api.Span{span(6, 6), span(0, 6)}, []int{0, 1}},
		{"no moves", api.Net{Batches: []int{5}}, []int{0}, []api.Span{span(5, 5)}, nil, []int{0}},
		{"nothing", api.Net{Batches: []int{0}}, []int{0}, []api.Span{{}}, nil, nil},
		{"full, 7", full(), []int{7}, large, slices.Concat(make([]api.Span, 7), slices.Repeat([]api.Span{span(1000000, 1000000)}, 5)), []int{0, 1, 2, 3, 4, 7}},
	} {
		holdReach(t, c)
	}
}

func holdReach(t *testing.T, c reachCase) {
	t.Helper()
	reach, e := trace.Reach(c.n, c.origins)
	through, f := trace.Through(c.n, c.origins)
	recall, g := trace.Recall(c.n, c.origins)
	if e != api.OK || f != api.OK || g != api.OK || !slices.Equal(reach, c.reach) || !slices.Equal(through, c.through) || !slices.Equal(recall, c.recall) {
		t.Error(c.name, reach, through, recall, e, f, g)
	}
}

// P5.3: a recall names what had some once, but has none at the end, and what has none at first only if some comes.
func TestRecallAtAnyTime(t *testing.T) {
	// The goods of 0 go on by 1 to 2; 3 only meets 1 before they come, 4 has no goods of its own.
	n := api.Net{Batches: []int{5, 1, 0, 0, 0}, Moves: []api.Move{{From: 1, To: 3, Grams: 1}, {From: 0, To: 1, Grams: 5}, {From: 1, To: 2, Grams: 5}}}
	for i, c := range []struct{ origins, want []int }{
		{[]int{0}, []int{0, 1, 2}},
		{[]int{0, 4}, []int{0, 1, 2}},
		{[]int{1}, []int{1, 3}},
		{[]int{1, 2}, []int{1, 3}},
		{[]int{4}, nil},
	} {
		if list, e := trace.Recall(n, c.origins); e != api.OK || !slices.Equal(list, c.want) {
			t.Error(i, list, e)
		}
	}
}

// P5.3: the examples of Origins, and its edges.
func TestOrigins(t *testing.T) {
	rest := changed(func(n *api.Net) { n.Moves[4].Grams = 1 })
	for i, c := range []struct {
		n     api.Net
		batch int
		want  []int
	}{
		{net(), 0, []int{0}}, {net(), 1, []int{1}}, {net(), 2, nil}, {net(), 3, []int{3}}, {net(), 4, []int{0, 1, 3}}, {net(), 5, []int{0, 1}},
		{ring(), 0, nil}, {ring(), 1, []int{0, 1}},
		{rest, 2, []int{0, 1}},
		{full(), 4, []int{0, 1, 2, 3, 4, 5, 6, 7}}, {full(), 7, nil},
		{api.Net{Batches: []int{0}}, 0, nil}, {api.Net{Batches: []int{1}}, 0, []int{0}},
	} {
		if list, e := trace.Origins(c.n, c.batch); e != api.OK || !slices.Equal(list, c.want) {
			t.Error(i, list, e)
		}
	}
}

// P5.2, P5.3, P5.6, P5.7: just the numbers that are said may be, and no batch that Recall does not name has any at any time: all ways of small nets are gone through, of all origins.
func TestTruths(t *testing.T) {
	open, unnamed := 0, 0
	for n := range nets(1500, 4, 4, 6) {
		if n.Batches[0] > 10 {
			continue
		}
		for origins := range lists(len(n.Batches)) {
			f := find(n, origins)
			reach, a := trace.Reach(n, origins)
			through, b := trace.Through(n, origins)
			recall, c := trace.Recall(n, origins)
			if a != api.OK || b != api.OK || c != api.OK || len(reach) != len(n.Batches) || len(through) != len(n.Moves) || !slices.IsSorted(recall) {
				t.Fatal(n, origins, reach, through, recall, a, b, c)
			}
			for batch, s := range reach {
				if !f.has[batch].all(s) || f.had[batch] != slices.Contains(recall, batch) {
					t.Fatal(n, origins, batch, s, recall)
				}
			}
			for move, s := range through {
				if !f.took[move].all(s) {
					t.Fatal(n, origins, move, s)
				}
				if s.Lo < s.Hi {
					open++
				}
			}
			unnamed += len(n.Batches) - len(recall)
		}
	}
	if open < 5000 || unnamed < 5000 {
		t.Error("few spans of more than one number, or few batches that are not named:", open, unnamed)
	}
}

// T3: if only batches are sold that a recall of some origins did not reach, no gram of these origins is sold, however goods truly go; all of them are in what it reached.
func TestRecalled(t *testing.T) {
	c := api.Cellar{Hall: span(40, 60), Rates: []api.Rate{{Above: 0, Loss: 1}, {Above: 50, Loss: 2}}}
	sold, kept := 0, 0
	for n := range nets(300, 4, 4, 6) {
		if n.Batches[0] > 10 {
			continue
		}
		var lots []api.Lot
		var sales []api.Sold
		for batch, grams := range n.Batches {
			lots = append(lots, api.Lot{Born: batch, Keeps: 3 * grams})
			sales = append(sales, api.Sold{Lot: batch, Hour: 4})
		}
		errors, e := cold.Sell(c, lots, sales)
		if e != api.OK {
			t.Fatal(e)
		}
		for origins := range lists(len(n.Batches)) {
			recall, e := trace.Recall(n, origins)
			if e != api.OK {
				t.Fatal(n, origins, e)
			}
			fresh := func(batch int) bool { return errors[batch] == api.OK }
			out := slices.DeleteFunc(others(len(n.Batches), recall), func(batch int) bool { return !fresh(batch) })
			holdRecalled(t, n, origins, recall, out)
			sold += len(out)
			kept += len(slices.DeleteFunc(recall, func(batch int) bool { return !fresh(batch) }))
		}
	}
	if sold < 1000 || kept < 1000 {
		t.Error("few batches that are sold, or that only a recall keeps:", sold, kept)
	}
}

// holdRecalled holds that in no truth a batch that is sold has, or has had, some goods of origins, and that those that were reached have all of them.
func holdRecalled(t *testing.T, n api.Net, origins, recall, sold []int) {
	t.Helper()
	goods := 0
	for _, origin := range origins {
		goods += n.Batches[origin]
	}
	for u := range truths(n, origins) {
		reached := 0
		for _, batch := range recall {
			reached += u.has[batch]
		}
		for _, batch := range sold {
			if u.has[batch] > 0 || u.had[batch] {
				t.Fatal(n, origins, batch, u)
			}
		}
		if reached != goods {
			t.Fatal(n, origins, recall, u)
		}
	}
}
