package cold_test

import (
	"math/rand/v2"
	"testing"

	"shambles/api"
	"shambles/cold"
)

// colder returns a cellar with more ice, less that melts, or a colder hall.
func colder(r *rand.Rand, c api.Cellar) api.Cellar {
	c = copied(c)
	fall := r.IntN(3)
	c.Hall = span(c.Hall.Lo-fall-r.IntN(2), c.Hall.Hi-fall)
	for i := range c.Boxes {
		b := &c.Boxes[i]
		b.Room += r.IntN(3)
		b.Ice.Hi = min(b.Room, b.Ice.Hi+r.IntN(3))
		b.Ice.Lo = min(b.Ice.Hi, b.Ice.Lo+r.IntN(3))
		b.Melt.Lo = max(0, b.Melt.Lo-r.IntN(2))
		b.Melt.Hi = max(b.Melt.Lo, b.Melt.Hi-r.IntN(3))
	}
	for i := range c.Fillings {
		c.Fillings[i].Grams += r.IntN(2)
	}
	return c
}

// P4.11: with more ice, less that melts, or a colder hall, no lot loses more.
func TestColder(t *testing.T) {
	r := rand.New(rand.NewPCG(4, 11))
	less := 0
	for c, l := range cellars(1500, 20) {
		better := colder(r, c)
		for hour := l.Born; hour <= 24; hour++ {
			before, e := cold.Lost(c, l, hour)
			after, f := cold.Lost(better, l, hour)
			if e != api.OK || f != api.OK || after.Lo > before.Lo || after.Hi > before.Hi {
				t.Fatal(c, better, l, hour, before, after, e, f)
			}
			if after != before {
				less++
			}
		}
		before, _ := cold.Last(c, l)
		if after, _ := cold.Last(better, l); after < before {
			t.Fatal(c, better, l, before, after)
		}
	}
	if less < 5000 {
		t.Error("few lots that lose less:", less)
	}
}

// inner returns a span within a span.
func inner(r *rand.Rand, s api.Span) api.Span {
	low := s.Lo + r.IntN(s.Hi-s.Lo+1)
	return span(low, low+r.IntN(s.Hi-low+1))
}

// told is what is said of a cellar and a lot: a span, and a verdict.
type told struct {
	span    api.Span
	verdict int
}

// tell returns what is said of each box in an hour, and of a lot at it.
func tell(t *testing.T, c api.Cellar, l api.Lot, hour int) []told {
	t.Helper()
	var all []told
	for box := range c.Boxes {
		ice, e := cold.Ice(c, box, hour)
		verdict, f := cold.Cold(c, box, hour)
		if e != api.OK || f != api.OK {
			t.Fatal(c, box, hour, e, f)
		}
		all = append(all, told{ice, verdict})
	}
	lost, e := cold.Lost(c, l, max(l.Born, hour))
	verdict, f := cold.Fresh(c, l, max(l.Born, hour))
	if e != api.OK || f != api.OK {
		t.Fatal(c, l, hour, e, f)
	}
	return append(all, told{lost, verdict})
}

// P4.12: with narrower spans nothing is wider, and what is Sure or Never stays.
func TestNarrower(t *testing.T) {
	r := rand.New(rand.NewPCG(4, 12))
	decided := 0
	for c, l := range cellars(1500, 20) {
		narrow := narrower(r, c)
		for hour := range 24 {
			after := tell(t, narrow, l, hour)
			for i, before := range tell(t, c, l, hour) {
				if !within(after[i].span, before.span) || before.verdict != api.Open && after[i].verdict != before.verdict {
					t.Fatal(c, narrow, l, hour, before, after[i])
				}
				if after[i].verdict != before.verdict {
					decided++
				}
			}
		}
	}
	if decided < 1000 {
		t.Error("few verdicts that are no more open:", decided)
	}
}

// narrower returns a cellar with narrower spans.
func narrower(r *rand.Rand, c api.Cellar) api.Cellar {
	c = copied(c)
	c.Hall = inner(r, c.Hall)
	for i := range c.Boxes {
		b := &c.Boxes[i]
		b.Ice, b.Melt, b.Cold, b.Warm = inner(r, b.Ice), inner(r, b.Melt), inner(r, b.Cold), inner(r, b.Warm)
	}
	return c
}
