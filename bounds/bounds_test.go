package bounds_test

import (
	"math"
	"testing"

	"shambles/api"
	"shambles/bounds"
)

func TestBounds(t *testing.T) {
	for _, c := range []struct {
		number                 int
		within, named, counted api.Errno
	}{
		{math.MinInt, api.ErrRange, api.ErrMissing, api.ErrShort},
		{-1, api.ErrRange, api.ErrMissing, api.ErrShort},
		{0, api.ErrRange, api.OK, api.ErrShort},
		{1, api.ErrRange, api.OK, api.ErrShort},
		{2, api.OK, api.OK, api.OK},
		{3, api.OK, api.OK, api.OK},
		{4, api.OK, api.ErrMissing, api.OK},
		{5, api.ErrRange, api.ErrMissing, api.ErrFull},
		{math.MaxInt, api.ErrRange, api.ErrMissing, api.ErrFull},
	} {
		if e := bounds.Within(c.number, 2, 4); e != c.within {
			t.Error("Within", c.number, e)
		}
		if e := bounds.Named(c.number, 4); e != c.named {
			t.Error("Named", c.number, e)
		}
		if e := bounds.Counted(c.number, 2, 4); e != c.counted {
			t.Error("Counted", c.number, e)
		}
	}
}
