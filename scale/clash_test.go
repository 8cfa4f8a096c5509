package scale_test

import (
	"math/bits"
	"math/rand/v2"
	"slices"
	"testing"

	"shambles/api"
	"shambles/scale"
)

// P1.3: the examples, and edges.
func TestClash(t *testing.T) {
	for name, c := range map[string]struct {
		b    api.Bench
		want []int
		e    api.Errno
	}{
		"may be":     {bench(), nil, api.ErrMissing},
		"no results": {changed(func(b *api.Bench) { b.Weighings, b.Trials = nil, nil }), nil, api.ErrMissing},
		"example":    {broken(), []int{0, 2, 3}, api.OK},
		"one alone":  {changed(func(b *api.Bench) { b.Weighings[1].Diff = span(31, 40) }), []int{1}, api.OK},
		"just not alone": {changed(func(b *api.Bench) {
			b.Weighings[1].Diff = span(-30, -30)
		}), []int{0, 1}, api.OK},
		"first of two alone": {changed(func(b *api.Bench) {
			b.Weighings[1].Diff = span(31, 40)
			b.Trials[0].Shown = 0
		}), []int{1}, api.OK},
		"fewer, though later": {changed(func(b *api.Bench) {
			*b = broken()
			b.Trials = append(b.Trials, api.Trial{Scale: 0, Day: 0, Mass: 0, Shown: 1006})
		}), []int{4}, api.OK},
		"trials alone": {changed(func(b *api.Bench) {
			b.Weighings = nil
			b.Trials = []api.Trial{{Shown: 1000, Day: 1}, {Shown: 1001, Day: 1}, {Shown: 1000, Day: 1}}
		}), []int{0, 1}, api.OK},
	} {
		if l, e := scale.Clash(c.b); !slices.Equal(l, c.want) || e != c.e {
			t.Error(name, l, e)
		}
	}
}

// P1.3: a ring of weighings contradicts only as a whole.
func TestClashRing(t *testing.T) {
	b := full()
	b.Trials = nil
	for i := range b.Weighings {
		b.Weighings[i] = api.Weighing{A: i % 5, B: (i + 1) % 5, Diff: span(1, 4)}
	}
	b.Weighings[5] = api.Weighing{A: 0, B: 4, Diff: span(-3, -2)}
	if l, e := scale.Clash(b); !slices.Equal(l, []int{0, 1, 2, 3, 4}) || e != api.OK {
		t.Error(l, e)
	}
	b.Weighings[4] = api.Weighing{A: 4, B: 0, Diff: span(-20, 20)}
	if l, e := scale.Clash(b); !slices.Equal(l, []int{0, 1, 2, 3, 5}) || e != api.OK {
		t.Error(l, e)
	}
}

// listed returns the numbers of a set, ascending.
func listed(set int) []int {
	var list []int
	for i := 0; set>>i > 0; i++ {
		if set>>i&1 == 1 {
			list = append(list, i)
		}
	}
	return list
}

// wantClash returns the first of the fewest results that no truth fulfils: all choices are looked at.
func wantClash(b api.Bench) []int {
	held := map[int]bool{}
	for x := range truths(b) {
		held[x.holding(b)] = true
	}
	var found []int
	for set := range all(b) + 1 {
		may := false
		for h := range held {
			may = may || h&set == set
		}
		list := listed(set)
		if may || found != nil && len(found) < len(list) {
			continue
		}
		if found == nil || len(list) < len(found) || slices.Compare(list, found) < 0 {
			found = list
		}
	}
	return found
}

// P1.9: with the results of Clash alone a bench may not be; with fewer, or as many that come before, it may.
func TestAllChoices(t *testing.T) {
	r := rand.New(rand.NewPCG(9, 9))
	sizes := map[int]int{}
	for range 3000 {
		b := pickBench(r)
		want := wantClash(b)
		l, e := scale.Clash(b)
		if !slices.Equal(l, want) || want == nil && e != api.ErrMissing || want != nil && e != api.OK {
			t.Fatal(b, l, e, want)
		}
		sizes[len(l)]++
	}
	for many := range 4 {
		if sizes[many] < 10 {
			t.Error("too few clashes of this size:", many, sizes)
		}
	}
}

// P1.9: a list of Clash, taken alone, contradicts, and without any one of its results it does not, in great benches too.
func TestGreatClash(t *testing.T) {
	r := rand.New(rand.NewPCG(19, 9))
	for range 30 {
		b, _ := pickTrue(r)
		b.Trials[r.IntN(6)].Shown += pick(r, 300, 900)
		b.Weighings[r.IntN(6)].Diff = span(-10, 10)
		l, e := scale.Clash(b)
		if e == api.ErrMissing {
			continue
		}
		set := 0
		for _, i := range l {
			set |= 1 << i
		}
		if !slices.IsSorted(l) || bits.OnesCount(uint(set)) != len(l) {
			t.Fatal(b, l)
		}
		if _, e := scale.Offs(only(b, set)); e != api.ErrClash {
			t.Fatal(b, l, e)
		}
		for _, i := range l {
			if _, e := scale.Offs(only(b, set&^(1<<i))); e != api.OK {
				t.Fatal(b, l, i, e)
			}
		}
	}
}

// only is the bench with the results of a set alone.
func only(b api.Bench, set int) api.Bench {
	left := b
	left.Weighings, left.Trials = nil, nil
	for _, i := range listed(set) {
		if i < len(b.Weighings) {
			left.Weighings = append(left.Weighings, b.Weighings[i])
		} else {
			left.Trials = append(left.Trials, b.Trials[i-len(b.Weighings)])
		}
	}
	return left
}
