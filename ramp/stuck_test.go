package ramp_test

import (
	"slices"
	"testing"

	"shambles/api"
	"shambles/ramp"
)

// P7.3: the examples of Stuck and Most, and which of several lists is told.
func TestStuck(t *testing.T) {
	for i, c := range []struct {
		y           api.Yard
		stuck, most []int
	}{
		{yard(), nil, []int{0, 1, 2}},
		{changed(func(y *api.Yard) { y.Ramps[1].Shut = 30 }), []int{0, 1, 2}, []int{0, 1}},
		{changed(func(y *api.Yard) { y.Carts = nil }), nil, nil},
		{changed(func(y *api.Yard) { y.Carts[0].Ramps = nil }), []int{0}, []int{1, 2}},
		{changed(func(y *api.Yard) { y.Carts[2].Ramps = nil }), []int{2}, []int{0, 1}},
		{changed(func(y *api.Yard) { y.Carts[1].Ramps, y.Carts[2].Ramps = nil, nil }), []int{1}, []int{0}},
		{changed(func(y *api.Yard) { y.Ramps[0].Bears, y.Ramps[1].Bears = 0, 0 }), []int{0}, nil},
		{changed(func(y *api.Yard) { y.Ramps[0].Bears, y.Carts[0].Ramps = 300, []int{0} }), []int{0}, []int{1, 2}},
		// Of several lists of the fewest carts, and of the most, the first one.
		{queue(0, 10, 10, 10, 10), []int{0, 1}, []int{0}},
		{queue(0, 10, 20, 20, 20), []int{0, 1, 2}, []int{0, 1}},
		{queue(0, 10, 20, 10, 10), []int{1, 2}, []int{0, 1}},
		{queue(0, 10, 10, 20, 9), []int{2}, []int{0, 1}},
		{queue(0, 10, 9, 20, 20), []int{0}, []int{1, 2}},
		{queue(0, 10, 9, 20, 9), []int{0}, []int{1}},
		{queue(0, 10, 10, 30, 10, 30), []int{0, 2}, []int{0, 1, 3}},
		{queue(0, 10, 20, 20, 10, 10), []int{2, 3}, []int{0, 1}},
		{queue(0, 10, 10, 10, 20, 20), []int{0, 1}, []int{0, 2}},
		{queue(1, 10, 40, 30, 20, 10), []int{2, 3}, []int{0, 1, 2}},
		{queue(1, 10, 43, 32, 20, 10), []int{2, 3}, []int{0, 1, 2}},
		{queue(1, 10, 43, 32, 21, 10), nil, []int{0, 1, 2, 3}},
		{queue(1, 10, 42, 32, 21, 10), []int{0, 1, 2, 3}, []int{0, 1, 2}},
		{queue(5, 10, 40, 9, 40), []int{1}, []int{0, 2}},
		{full(), []int{0}, nil},
		{wide(480, 480, 480, 480, 480, 480, 480), []int{0, 1, 2, 3}, []int{0, 1, 2}},
		{wide(240, 240, 240, 240, 240, 240, 240), []int{0, 1, 2, 3, 4, 5, 6}, []int{0, 1, 2, 3, 4, 5}},
		{wide(240, 240, 240, 241, 240, 240, 240), []int{0, 1, 2, 3, 4, 5}, []int{0, 1, 2, 4, 5, 6}},
		{wide(1, 480, 480, 480, 1, 1, 1), []int{0, 1, 2, 3}, []int{0, 1, 2, 4, 5, 6}},
	} {
		set, e := ramp.Stuck(c.y)
		list, f := ramp.Most(c.y)
		want := api.OK
		if c.stuck == nil {
			want = api.ErrMissing
		}
		if e != want || f != api.OK || !slices.Equal(set, c.stuck) || !slices.Equal(list, c.most) {
			t.Error(i, set, e, list, f)
		}
	}
}

// hold holds Stuck and Most against all lists of carts, told by can which of them can be served together, and returns how many carts are stuck, and served.
func hold(t *testing.T, y api.Yard, can func(y api.Yard) bool) (int, int) {
	t.Helper()
	var few, many []int
	for _, list := range lists(len(y.Carts)) {
		ok := can(only(y, list))
		if ok && (len(list) > len(many)) {
			many = list
		}
		if !ok && few == nil {
			few = list
		}
	}
	set, list := stuck(t, y), most(t, y)
	if !slices.Equal(set, few) || !slices.Equal(list, many) {
		t.Fatal(y, set, few, list, many)
	}
	_, _, ok := served(t, y)
	if ok != (few == nil) || ok != (len(many) == len(y.Carts)) {
		t.Fatal(y, ok, few, many)
	}
	return len(few), len(many)
}

// P7.9, P7.10: all lists of carts, and all plans, of small yards.
func TestAllLists(t *testing.T) {
	sizes, ends := map[int]int{}, map[int]int{}
	count := func(y api.Yard, until int) {
		t.Helper()
		few, many := hold(t, y, func(y api.Yard) bool { return canServe(y, until) })
		sizes[few]++
		ends[many]++
	}
	for y := range yards(3000, size{2, 4, 9, 4}) {
		count(y, 9)
	}
	for y := range yards(1000, size{3, 5, 7, 4}) {
		count(y, 7)
	}
	if sizes[0] < 200 || sizes[1] < 200 || sizes[2] < 200 || sizes[3] < 100 || ends[0] < 50 || ends[1] < 200 || ends[2] < 200 || ends[3] < 100 {
		t.Error("few lists of a kind:", sizes, ends)
	}
}

// P7.9, P7.10: all lists of carts of great yards; whether they can be served is found in another way.
func TestGreatLists(t *testing.T) {
	sizes, ends := map[int]int{}, map[int]int{}
	for y := range yards(3000, size{3, 7, 480, 180}) {
		few, many := hold(t, y, func(y api.Yard) bool { return soonest(y) < never })
		sizes[few]++
		ends[many]++
	}
	if sizes[2] < 20 || sizes[3] < 20 || sizes[4] < 20 || ends[4] < 20 || ends[5] < 20 || ends[6] < 20 {
		t.Error("few lists of a kind:", sizes, ends)
	}
}
