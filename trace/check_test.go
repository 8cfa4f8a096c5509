package trace_test

import (
	"math"
	"math/rand/v2"
	"slices"
	"testing"

	"shambles/api"
	"shambles/trace"
)

type checkCase struct {
	name   string
	change func(n *api.Net)
	want   api.Errno
}

// move is the change of the first move to this one.
func move(from, to, grams int) func(n *api.Net) {
	return func(n *api.Net) { n.Moves[0] = api.Move{From: from, To: to, Grams: grams} }
}

// batches is the change to these batches, without moves.
func batches(grams ...int) func(n *api.Net) {
	return func(n *api.Net) { *n = api.Net{Batches: grams} }
}

// P5.1: each error of a net, from both sides of each bound.
func TestCheck(t *testing.T) {
	run(t, []checkCase{
		{"N", func(n *api.Net) {}, api.OK},
		{"ring", func(n *api.Net) { *n = ring() }, api.OK},
		{"full", func(n *api.Net) { *n = full() }, api.OK},
		{"no moves", func(n *api.Net) { n.Moves = nil }, api.OK},
		{"no batches", func(n *api.Net) { n.Batches = nil }, api.ErrShort},
		{"nothing", batches(), api.ErrShort},
		{"one batch", batches(0), api.OK},
		{"8 batches", func(n *api.Net) { n.Batches = append(n.Batches, 0, 0) }, api.OK},
		{"9 batches", func(n *api.Net) { n.Batches = append(n.Batches, 0, 0, 0) }, api.ErrFull},
		{"grams below 0", batches(5, -1), api.ErrRange},
		{"grams most", batches(5, 1000000), api.OK},
		{"grams too much", batches(5, 1000001), api.ErrRange},
		{"12 moves", func(n *api.Net) { n.Moves = slices.Repeat([]api.Move{{From: 0, To: 1, Grams: 1}}, 12) }, api.OK},
		{"13 moves", func(n *api.Net) { n.Moves = slices.Repeat([]api.Move{{From: 0, To: 1, Grams: 1}}, 13) }, api.ErrFull},
		{"from no batch", move(6, 2, 60), api.ErrMissing},
		{"from below 0", move(-1, 2, 60), api.ErrMissing},
		{"to no batch", move(0, 6, 60), api.ErrMissing},
		{"to below 0", move(0, -1, 60), api.ErrMissing},
		{"to the last batch", func(n *api.Net) { n.Moves = []api.Move{{From: 0, To: 5, Grams: 60}} }, api.OK},
		{"to itself", move(0, 0, 60), api.ErrForm},
		{"no grams", move(0, 2, 0), api.ErrRange},
		{"grams of a move below 0", move(0, 2, -1), api.ErrRange},
		{"one gram", func(n *api.Net) { n.Moves = []api.Move{{From: 0, To: 2, Grams: 1}} }, api.OK},
		{"grams of a move too much", move(0, 2, 8000001), api.ErrRange},
		{"grams of a move most, but there are not as many", move(0, 2, 8000000), api.ErrOver},
		{"all that there is", move(0, 2, 100), api.OK},
		{"more than there is", move(0, 2, 101), api.ErrOver},
		{"more than is left", func(n *api.Net) { n.Moves[4].Grams = 41 }, api.ErrOver},
		{"all that is left", func(n *api.Net) { n.Moves[4].Grams = 40 }, api.OK},
		{"from what comes later", func(n *api.Net) { n.Moves[0], n.Moves[2] = n.Moves[2], n.Moves[0] }, api.ErrOver},
		{"from what was empty", func(n *api.Net) { n.Moves = append(n.Moves, api.Move{From: 5, To: 0, Grams: 40}) }, api.OK},
		{"from what is empty again", func(n *api.Net) { n.Moves = append(n.Moves, api.Move{From: 2, To: 0, Grams: 1}) }, api.ErrOver},
		{"more than 1,000,000 together", func(n *api.Net) {
			*n = api.Net{Batches: []int{1000000, 1000000, 0}, Moves: []api.Move{{From: 0, To: 1, Grams: 1000000}, {From: 1, To: 2, Grams: 2000000}}}
		}, api.OK},
	})
}

// P5.1, R1: of two errors the one is told that the chapter names first.
func TestCheckOrder(t *testing.T) {
	later := api.Move{From: 9, To: 9}
	run(t, []checkCase{
		{"number of batches first", batches(-1, -1, -1, -1, -1, -1, -1, -1, -1), api.ErrFull},
		{"no batches, then moves", func(n *api.Net) { *n = api.Net{Moves: make([]api.Move, 13)} }, api.ErrShort},
		{"batches, then the number of moves", func(n *api.Net) { n.Batches[5], n.Moves = -1, make([]api.Move, 13) }, api.ErrRange},
		{"number of moves first", func(n *api.Net) { n.Moves = slices.Repeat([]api.Move{later}, 13) }, api.ErrFull},
		{"from and to missing, then the same", move(6, 6, 0), api.ErrMissing},
		{"to missing, then grams", move(0, 6, 0), api.ErrMissing},
		{"the same, then grams", move(0, 0, 0), api.ErrForm},
		{"the same, then over", move(2, 2, 1), api.ErrForm},
		{"grams, then over", move(2, 0, 8000001), api.ErrRange},
		{"over, then the next move", func(n *api.Net) { n.Moves[0].Grams, n.Moves[1] = 101, later }, api.ErrOver},
		{"move by move", func(n *api.Net) { n.Moves[1].Grams, n.Moves[2] = 0, later }, api.ErrRange},
	})
}

// run holds Check, and all that return its error, against what is wanted; all other arguments are wrong too, but this comes later.
func run(t *testing.T, cases []checkCase) {
	t.Helper()
	for _, k := range cases {
		n := changed(k.change)
		if e := trace.Check(n); e != k.want {
			t.Errorf("%s: %v, want %v", k.name, e, k.want)
		}
		holds, a := trace.Holds(n)
		text, b := trace.Write(n)
		if a != k.want || b != k.want || k.want != api.OK && (holds != nil || text != "") {
			t.Errorf("%s: %v %v %q %v", k.name, holds, a, text, b)
		}
		later := k.want
		if later == api.OK {
			later = api.ErrMissing
		}
		reach, c := trace.Reach(n, []int{9})
		through, d := trace.Through(n, []int{9})
		recall, f := trace.Recall(n, []int{9})
		origins, g := trace.Origins(n, 9)
		samples, h := trace.Samples(n, []int{9})
		for _, got := range []api.Errno{c, d, f, g, h} {
			if got != later {
				t.Errorf("%s: %v, want %v", k.name, got, later)
			}
		}
		if reach != nil || through != nil || recall != nil || origins != nil || samples != nil {
			t.Errorf("%s: results beside an error", k.name)
		}
	}
}

// P5.2, P5.3, P5.4, R1: the errors of origins.
func TestOriginErrors(t *testing.T) {
	for i, k := range []struct {
		origins []int
		want    api.Errno
	}{
		{nil, api.OK},
		{[]int{0}, api.OK},
		{[]int{5}, api.OK},
		{[]int{0, 1, 2, 3, 4, 5}, api.OK},
		{[]int{6}, api.ErrMissing},
		{[]int{-1}, api.ErrMissing},
		{[]int{math.MinInt}, api.ErrMissing},
		{[]int{math.MaxInt}, api.ErrMissing},
		{[]int{0, 0}, api.ErrOrder},
		{[]int{3, 1}, api.ErrOrder},
		{[]int{1, 3, 2}, api.ErrOrder},
		{[]int{3, 6}, api.ErrMissing},
		{[]int{3, -1}, api.ErrMissing},
		{[]int{3, 1, 9}, api.ErrOrder},
		{[]int{3, 9, 1}, api.ErrMissing},
		{slices.Repeat([]int{5}, 100), api.ErrOrder},
	} {
		reach, a := trace.Reach(net(), k.origins)
		through, b := trace.Through(net(), k.origins)
		recall, c := trace.Recall(net(), k.origins)
		if a != k.want || b != k.want || c != k.want {
			t.Error(i, a, b, c)
		}
		if k.want != api.OK {
			samples, d := trace.Samples(net(), k.origins)
			if d != k.want || reach != nil || through != nil || recall != nil || samples != nil {
				t.Error(i, d, reach, through, recall, samples)
			}
		}
	}
}

// P5.3: the errors of the batch of Origins.
func TestBatchErrors(t *testing.T) {
	for _, batch := range []int{-1, 6, math.MinInt, math.MaxInt} {
		if list, e := trace.Origins(net(), batch); e != api.ErrMissing || list != nil {
			t.Error(batch, list, e)
		}
	}
	for batch := range 6 {
		if _, e := trace.Origins(net(), batch); e != api.OK {
			t.Error(batch, e)
		}
	}
}

// P1: no argument makes a function panic.
func TestAnyArguments(t *testing.T) {
	r := rand.New(rand.NewPCG(1, 5))
	odd := []int{math.MinInt, -1, 0, 1, 2, 3, 5, 7, 8, 9, 60, 101, 1000000, 1000001, 8000000, 8000001, math.MaxInt}
	pick := func() int { return odd[r.IntN(len(odd))] }
	for range 10000 {
		n := pickNet(r, 9, 1000000, 13)
		switch r.IntN(5) {
		case 0:
			n.Batches[r.IntN(len(n.Batches))] = pick()
		case 1:
			n.Moves = append(n.Moves, api.Move{From: pick(), To: pick(), Grams: pick()})
		case 2:
			n.Batches = n.Batches[:r.IntN(len(n.Batches))]
		}
		origins := []int{pick(), pick(), pick()}[:r.IntN(4)]
		trace.Holds(n)
		trace.Reach(n, origins)
		trace.Through(n, origins)
		trace.Recall(n, origins)
		trace.Origins(n, pick())
		trace.Samples(n, origins)
		if _, e := trace.Write(n); e != trace.Check(n) {
			t.Fatal(n, e)
		}
	}
}

// R4: arguments stay as they are, and results share no memory.
func TestMemory(t *testing.T) {
	n, origins := net(), []int{0, 1}
	text, _ := trace.Write(n)
	for range 2 {
		holds, _ := trace.Holds(n)
		reach, _ := trace.Reach(n, origins)
		through, _ := trace.Through(n, origins)
		recall, _ := trace.Recall(n, origins)
		sources, _ := trace.Origins(n, 5)
		samples, _ := trace.Samples(n, origins)
		read, _, _ := trace.Read(text)
		if holds[0] != 40 || reach[4] != span(50, 50) || through[2] != span(50, 50) || !slices.Equal(recall, []int{0, 1, 2, 4, 5}) || !slices.Equal(sources, origins) || !slices.Equal(samples, []int{0}) || !same(read, n) {
			t.Error(holds, reach, through, recall, sources, samples, read)
		}
		clear(holds)
		clear(reach)
		clear(through)
		clear(recall)
		clear(sources)
		clear(samples)
		clear(read.Batches)
		clear(read.Moves)
	}
	if !same(n, net()) || !slices.Equal(origins, []int{0, 1}) {
		t.Error(n, origins)
	}
	moveless := api.Net{Batches: []int{5, 6}}
	holds, _ := trace.Holds(moveless)
	clear(holds)
	if !slices.Equal(moveless.Batches, []int{5, 6}) {
		t.Error(moveless)
	}
}
