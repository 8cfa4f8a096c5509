package scale_test

import (
	"math"
	"testing"

	"shambles/api"
	"shambles/scale"
)

type checkCase struct {
	name   string
	change func(b *api.Bench)
	want   api.Errno
}

// P1.1: each bound of a bench, from both of its sides.
func TestCheckBounds(t *testing.T) {
	run(t, []checkCase{
		{"as it is", func(b *api.Bench) {}, api.OK},
		{"no masses", func(b *api.Bench) { b.Masses = nil }, api.ErrShort},
		{"empty masses", func(b *api.Bench) { b.Masses = []api.Mass{} }, api.ErrShort},
		{"most masses", func(b *api.Bench) { *b = full() }, api.OK},
		{"too many masses", func(b *api.Bench) { b.Masses = make([]api.Mass, 6) }, api.ErrFull},
		{"nominal 0", func(b *api.Bench) { b.Masses[2].Nominal = 0 }, api.ErrRange},
		{"nominal 1", func(b *api.Bench) { b.Masses[2].Nominal = 1 }, api.OK},
		{"nominal most", func(b *api.Bench) { b.Masses[2].Nominal = api.MaxNominal }, api.OK},
		{"nominal too much", func(b *api.Bench) { b.Masses[2].Nominal = api.MaxNominal + 1 }, api.ErrRange},
		{"off widest", func(b *api.Bench) { b.Masses[0].Off = span(-10000, 10000) }, api.OK},
		{"off too low", func(b *api.Bench) { b.Masses[0].Off = span(-10001, 0) }, api.ErrRange},
		{"off too high", func(b *api.Bench) { b.Masses[0].Off = span(0, 10001) }, api.ErrRange},
		{"off turned", func(b *api.Bench) { b.Masses[0].Off = span(1, 0) }, api.ErrOrder},
		{"off turned and too high", func(b *api.Bench) { b.Masses[0].Off = span(10001, 0) }, api.ErrRange},
		{"too many weighings", func(b *api.Bench) { b.Weighings = make([]api.Weighing, 7) }, api.ErrFull},
		{"no weighings", func(b *api.Bench) { b.Weighings = nil }, api.OK},
		{"A is none", func(b *api.Bench) { b.Weighings[0].A = 3 }, api.ErrMissing},
		{"A below 0", func(b *api.Bench) { b.Weighings[0].A = -1 }, api.ErrMissing},
		{"B is none", func(b *api.Bench) { b.Weighings[1].B = 3 }, api.ErrMissing},
		{"B below 0", func(b *api.Bench) { b.Weighings[1].B = -1 }, api.ErrMissing},
		{"A is B", func(b *api.Bench) { b.Weighings[0].B = 1 }, api.ErrForm},
		{"diff widest", func(b *api.Bench) { b.Weighings[0].Diff = span(-20000, 20000) }, api.OK},
		{"diff too low", func(b *api.Bench) { b.Weighings[0].Diff.Lo = -20001 }, api.ErrRange},
		{"diff too high", func(b *api.Bench) { b.Weighings[0].Diff.Hi = 20001 }, api.ErrRange},
		{"diff turned", func(b *api.Bench) { b.Weighings[0].Diff = span(5, 4) }, api.ErrOrder},
		{"no scales", func(b *api.Bench) { b.Scales = nil }, api.ErrShort},
		{"too many scales", func(b *api.Bench) { b.Scales = make([]api.Scale, 4) }, api.ErrFull},
		{"first too low", func(b *api.Bench) { b.Scales[0].First.Lo = -10001 }, api.ErrRange},
		{"first turned", func(b *api.Bench) { b.Scales[0].First = span(2, 1) }, api.ErrOrder},
		{"drift too high", func(b *api.Bench) { b.Scales[0].Drift.Hi = 10001 }, api.ErrRange},
		{"drift turned", func(b *api.Bench) { b.Scales[0].Drift = span(-1, -2) }, api.ErrOrder},
		{"days below 0", func(b *api.Bench) { b.Days = -1 }, api.ErrRange},
		{"days 0", func(b *api.Bench) { b.Days, b.Trials = 0, nil }, api.OK},
		{"days most", func(b *api.Bench) { b.Days = 8 }, api.OK},
		{"days too many", func(b *api.Bench) { b.Days = 9 }, api.ErrRange},
		{"too many trials", func(b *api.Bench) { b.Trials = make([]api.Trial, 7) }, api.ErrFull},
		{"scale is none", func(b *api.Bench) { b.Trials[0].Scale = 1 }, api.ErrMissing},
		{"scale below 0", func(b *api.Bench) { b.Trials[0].Scale = -1 }, api.ErrMissing},
		{"mass is none", func(b *api.Bench) { b.Trials[0].Mass = 3 }, api.ErrMissing},
		{"mass below 0", func(b *api.Bench) { b.Trials[0].Mass = -1 }, api.ErrMissing},
		{"day last", func(b *api.Bench) { b.Trials[0].Day = 4 }, api.OK},
		{"day too late", func(b *api.Bench) { b.Trials[0].Day = 5 }, api.ErrRange},
		{"day below 0", func(b *api.Bench) { b.Trials[0].Day = -1 }, api.ErrRange},
		{"shown 0", func(b *api.Bench) { b.Trials[0].Shown = 0 }, api.OK},
		{"shown below 0", func(b *api.Bench) { b.Trials[0].Shown = -1 }, api.ErrRange},
		{"shown most", func(b *api.Bench) { b.Trials[0].Shown = 2000000 }, api.OK},
		{"shown too much", func(b *api.Bench) { b.Trials[0].Shown = 2000001 }, api.ErrRange},
	})
}

// P1.1, R1: of two errors the one is told that the chapter names first.
func TestCheckOrder(t *testing.T) {
	run(t, []checkCase{
		{"nominal, then off", func(b *api.Bench) { b.Masses[0] = api.Mass{Off: span(1, 0)} }, api.ErrRange},
		{"mass by mass", func(b *api.Bench) { b.Masses[0].Off = span(1, 0); b.Masses[1].Nominal = 0 }, api.ErrOrder},
		{"masses, then their number", func(b *api.Bench) { b.Masses[0].Off = span(1, 0); b.Weighings = make([]api.Weighing, 7) }, api.ErrOrder},
		{"number of weighings first", func(b *api.Bench) { b.Weighings = make([]api.Weighing, 7); b.Weighings[0].A = 9 }, api.ErrFull},
		{"masses of a weighing, then same", func(b *api.Bench) { b.Weighings[0].A, b.Weighings[0].B = 3, 3 }, api.ErrMissing},
		{"same, then diff", func(b *api.Bench) { b.Weighings[0] = api.Weighing{A: 1, B: 1, Diff: span(1, 0)} }, api.ErrForm},
		{"weighing by weighing", func(b *api.Bench) { b.Weighings[0].Diff = span(1, 0); b.Weighings[1].A = 7 }, api.ErrOrder},
		{"weighings, then scales", func(b *api.Bench) { b.Weighings[1].A = 1; b.Scales = nil }, api.ErrForm},
		{"first, then drift", func(b *api.Bench) { b.Scales[0] = api.Scale{First: span(1, 0), Drift: span(-10001, 0)} }, api.ErrOrder},
		{"scales, then days", func(b *api.Bench) { b.Scales[0].Drift = span(1, 0); b.Days = 9 }, api.ErrOrder},
		{"days, then trials", func(b *api.Bench) { b.Days = -1; b.Trials = make([]api.Trial, 7) }, api.ErrRange},
		{"number of trials first", func(b *api.Bench) { b.Trials = make([]api.Trial, 7); b.Trials[0].Scale = 5 }, api.ErrFull},
		{"mass, then day", func(b *api.Bench) { b.Trials[0].Mass, b.Trials[0].Day = 3, 5 }, api.ErrMissing},
		{"trial by trial", func(b *api.Bench) { b.Trials = append(b.Trials, api.Trial{Scale: 7}); b.Trials[0].Day = 5 }, api.ErrRange},
	})
}

// run holds Check, and all that return its error, against what is wanted.
func run(t *testing.T, cases []checkCase) {
	t.Helper()
	for _, c := range cases {
		b := changed(c.change)
		if e := scale.Check(b); e != c.want {
			t.Errorf("%s: %v, want %v", c.name, e, c.want)
		}
		if c.want == api.OK {
			continue
		}
		offs, e := scale.Offs(b)
		errors, f := scale.Errors(b, 99)
		weight, g := scale.Weight(b, 99, 99, -1)
		verdict, h := scale.Keeps(b, 99, 99, -1)
		clash, i := scale.Clash(b)
		text, j := scale.Write(b)
		for _, got := range []api.Errno{e, f, g, h, i, j} {
			if got != c.want {
				t.Errorf("%s: %v, want %v", c.name, got, c.want)
			}
		}
		if offs != nil || errors != nil || weight != span(0, 0) || verdict != 0 || clash != nil || text != "" {
			t.Errorf("%s: results beside an error", c.name)
		}
	}
}

// P1.1, P1.2: the errors of the other arguments, in their order.
func TestArguments(t *testing.T) {
	type arguments struct {
		b                       api.Bench
		scale, day, shown, most int
		errors, weight, keeps   api.Errno
	}
	for _, c := range []arguments{
		{bench(), 0, 4, 0, 0, api.OK, api.OK, api.OK},
		{bench(), 0, 0, 2000000, 10000, api.OK, api.OK, api.OK},
		{bench(), 1, 0, 0, 0, api.ErrMissing, api.ErrMissing, api.ErrMissing},
		{bench(), -1, 9, -1, -1, api.ErrMissing, api.ErrMissing, api.ErrMissing},
		{bench(), 0, 5, 0, 0, api.OK, api.ErrRange, api.ErrRange},
		{bench(), 0, -1, 0, 0, api.OK, api.ErrRange, api.ErrRange},
		{bench(), 0, 0, -1, -1, api.OK, api.ErrRange, api.ErrRange},
		{bench(), 0, 0, 2000001, 10001, api.OK, api.ErrRange, api.ErrRange},
		{broken(), 0, 0, 0, 0, api.ErrClash, api.ErrClash, api.ErrClash},
		{broken(), 1, 0, 0, 0, api.ErrMissing, api.ErrMissing, api.ErrMissing},
		{broken(), 0, 5, 0, 0, api.ErrClash, api.ErrRange, api.ErrRange},
		{broken(), 0, 0, -1, -1, api.ErrClash, api.ErrRange, api.ErrRange},
	} {
		l, e := scale.Errors(c.b, c.scale)
		w, f := scale.Weight(c.b, c.scale, c.day, c.shown)
		v, g := scale.Keeps(c.b, c.scale, c.day, c.most)
		if e != c.errors || f != c.weight || g != c.keeps {
			t.Errorf("%+v: %v %v %v", c, e, f, g)
		}
		if e != api.OK && l != nil || f != api.OK && w != span(0, 0) || g != api.OK && v != 0 {
			t.Errorf("%+v: results beside an error", c)
		}
	}
	if l, e := scale.Offs(broken()); l != nil || e != api.ErrClash {
		t.Error(l, e)
	}
}

// P1, R5: numbers at the ends of their type are arguments like all others.
func TestExtremes(t *testing.T) {
	ends := []int{math.MinInt, math.MinInt + 1, -1, 0, 1, math.MaxInt - 1, math.MaxInt}
	for _, x := range ends {
		for _, y := range ends {
			for _, b := range []api.Bench{
				{Days: x},
				changed(func(b *api.Bench) { b.Days = x; b.Trials[0].Day = y }),
				changed(func(b *api.Bench) { b.Masses[0] = api.Mass{Nominal: x, Off: span(x, y)} }),
				changed(func(b *api.Bench) { b.Masses[0].Off = span(x, y) }),
				changed(func(b *api.Bench) { b.Weighings[0] = api.Weighing{A: x, B: y, Diff: span(x, y)} }),
				changed(func(b *api.Bench) { b.Weighings[0].Diff = span(x, y) }),
				changed(func(b *api.Bench) { b.Scales[0] = api.Scale{First: span(x, y), Drift: span(y, x)} }),
				changed(func(b *api.Bench) { b.Trials[0] = api.Trial{Scale: x, Day: y, Mass: x, Shown: y} }),
				changed(func(b *api.Bench) { b.Trials[0].Shown = x }),
			} {
				scale.Check(b)
				scale.Offs(b)
				scale.Errors(b, x)
				scale.Weight(b, 0, x, y)
				scale.Weight(b, 0, 1, y)
				scale.Keeps(b, 0, 1, y)
				scale.Clash(b)
				scale.Write(b)
			}
			scale.Lasts(span(x, y), span(y, x), x)
			scale.Lasts(span(0, 0), span(x, y), y)
			scale.Plan(api.Seals{Left: []int{x}, Every: []int{y}, Most: x, Days: y})
			scale.Plan(api.Seals{Left: []int{x, y}, Every: []int{y, x}, Most: 1, Days: 3})
		}
	}
}

// R2, R4: arguments are as they were, a second call says the same, and results are one's own.
func TestPlainData(t *testing.T) {
	b, kept := bench(), bench()
	first, _ := scale.Offs(b)
	first[1] = span(77, 78)
	errors, _ := scale.Errors(b, 0)
	errors[0] = span(77, 78)
	scale.Weight(b, 0, 1, 5)
	scale.Keeps(b, 0, 1, 5)
	text, _ := scale.Write(b)
	if !same(b, kept) {
		t.Error(b)
	}
	if again, _ := scale.Offs(b); again[1] != span(3, 5) {
		t.Error(again)
	}
	if again, _ := scale.Errors(b, 0); again[0] != span(1, 5) {
		t.Error(again)
	}
	read, _, _ := scale.Read(text)
	read.Masses[0].Nominal = 5
	if again, _, _ := scale.Read(text); !same(again, kept) {
		t.Error(again)
	}
	wrong, copy := broken(), copied(broken())
	list, _ := scale.Clash(wrong)
	list[0] = 9
	if again, _ := scale.Clash(wrong); again[0] != 0 || !same(wrong, copy) {
		t.Error(again, wrong)
	}
	s := api.Seals{Left: []int{1, 0}, Every: []int{2, 3}, Most: 1, Days: 4}
	plan, _ := scale.Plan(s)
	plan[0].Day = 9
	if again, _ := scale.Plan(s); again[0].Day != 1 || s.Left[0] != 1 || s.Left[1] != 0 || s.Every[0] != 2 || s.Every[1] != 3 {
		t.Error(again, s)
	}
}
