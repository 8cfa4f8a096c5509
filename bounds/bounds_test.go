package bounds_test

import (
	"math"
	"testing"

	"shambles/api"
	"shambles/bounds"
)

func TestBounds(t *testing.T) {
	for _, c := range []struct {
		number                 int
		within, named, counted api.Errno
	}{
		{math.MinInt, api.ErrRange, api.ErrMissing, api.ErrShort},
		{-1, api.ErrRange, api.ErrMissing, api.ErrShort},
		{0, api.ErrRange, api.OK, api.ErrShort},
		{1, api.ErrRange, api.OK, api.ErrShort},
		{2, api.OK, api.OK, api.OK},
		{3, api.OK, api.OK, api.OK},
		{4, api.OK, api.ErrMissing, api.OK},
		{5, api.ErrRange, api.ErrMissing, api.ErrFull},
		{math.MaxInt, api.ErrRange, api.ErrMissing, api.ErrFull},
	} {
		if e := bounds.Within(c.number, 2, 4); e != c.within {
			t.Error("Within", c.number, e)
		}
		if e := bounds.Named(c.number, 4); e != c.named {
			t.Error("Named", c.number, e)
		}
		if e := bounds.Counted(c.number, 2, 4); e != c.counted {
			t.Error("Counted", c.number, e)
		}
	}
}

func TestSpan(t *testing.T) {
	for _, c := range []struct {
		low, high int
		want      api.Errno
	}{
		{-2, 4, api.OK}, {-2, -2, api.OK}, {4, 4, api.OK}, {0, 1, api.OK},
		{-3, 4, api.ErrRange}, {-2, 5, api.ErrRange}, {5, 5, api.ErrRange}, {-3, -3, api.ErrRange},
		{1, 0, api.ErrOrder}, {4, -2, api.ErrOrder},
		{5, 0, api.ErrRange}, {0, -3, api.ErrRange}, {math.MaxInt, math.MinInt, api.ErrRange}, {math.MinInt, math.MaxInt, api.ErrRange},
	} {
		if e := bounds.Span(api.Span{Lo: c.low, Hi: c.high}, -2, 4); e != c.want {
			t.Error(c.low, c.high, e)
		}
	}
}

func TestUnless(t *testing.T) {
	if e := bounds.Unless(true, api.ErrClash); e != api.OK {
		t.Error(e)
	}
	if e := bounds.Unless(false, api.ErrClash); e != api.ErrClash {
		t.Error(e)
	}
}

func TestListed(t *testing.T) {
	for _, c := range []struct {
		numbers []int
		want    api.Errno
	}{
		{nil, api.OK}, {[]int{0}, api.OK}, {[]int{3}, api.OK}, {[]int{0, 1, 2, 3}, api.OK}, {[]int{1, 3}, api.OK},
		{[]int{4}, api.ErrMissing}, {[]int{-1}, api.ErrMissing}, {[]int{math.MaxInt}, api.ErrMissing}, {[]int{math.MinInt}, api.ErrMissing},
		{[]int{0, 0}, api.ErrOrder}, {[]int{2, 1}, api.ErrOrder}, {[]int{1, 3, 2}, api.ErrOrder},
		{[]int{2, 1, 4}, api.ErrOrder}, {[]int{2, 4, 1}, api.ErrMissing}, {[]int{2, -1}, api.ErrMissing},
	} {
		if e := bounds.Listed(c.numbers, 4); e != c.want {
			t.Error(c.numbers, e)
		}
	}
}

func TestSum(t *testing.T) {
	span := func(low, high int) api.Span { return api.Span{Lo: low, Hi: high} }
	for _, c := range []struct {
		spans []api.Span
		want  api.Span
	}{
		{nil, span(0, 0)},
		{[]api.Span{span(-2, 5)}, span(-2, 5)},
		{[]api.Span{span(-2, 5), span(3, 3)}, span(1, 8)},
		{[]api.Span{span(1, 2), span(10, 20), span(-300, -100)}, span(-289, -78)},
	} {
		if s := bounds.Sum(c.spans...); s != c.want {
			t.Error(c.spans, s)
		}
	}
}

func TestVerdict(t *testing.T) {
	if a, b, c := bounds.Verdict(true, true), bounds.Verdict(true, false), bounds.Verdict(false, false); a != api.Sure || b != api.Open || c != api.Never {
		t.Error(a, b, c)
	}
}
