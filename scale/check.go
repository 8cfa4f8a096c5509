package scale

import (
	"cmp"

	"shambles/api"
)

// Check returns the first error of a bench.
func Check(b api.Bench) api.Errno {
	return cmp.Or(
		checkMasses(b),
		checkWeighings(b),
		checkScales(b),
		within(b.Days, 0, api.MaxWatch),
		checkTrials(b),
	)
}

// within returns ErrRange unless a number is from least to most.
func within(number, least, most int) api.Errno {
	if number < least || number > most {
		return api.ErrRange
	}
	return api.OK
}

// named returns ErrMissing unless a number is that of one of so many things.
func named(number, many int) api.Errno {
	if number < 0 || number >= many {
		return api.ErrMissing
	}
	return api.OK
}

// counted returns an error unless there are from least to most things.
func counted(many, least, most int) api.Errno {
	switch {
	case many < least:
		return api.ErrShort
	case many > most:
		return api.ErrFull
	}
	return api.OK
}

// checkSpan returns the error of a span from -bound to bound.
func checkSpan(s api.Span, bound int) api.Errno {
	if e := cmp.Or(within(s.Lo, -bound, bound), within(s.Hi, -bound, bound)); e != api.OK {
		return e
	}
	if s.Lo > s.Hi {
		return api.ErrOrder
	}
	return api.OK
}

func checkMasses(b api.Bench) api.Errno {
	if e := counted(len(b.Masses), 1, api.MaxMasses); e != api.OK {
		return e
	}
	for _, m := range b.Masses {
		if e := cmp.Or(within(m.Nominal, 1, api.MaxNominal), checkSpan(m.Off, api.MaxOff)); e != api.OK {
			return e
		}
	}
	return api.OK
}

func checkWeighings(b api.Bench) api.Errno {
	if e := counted(len(b.Weighings), 0, api.MaxWeighings); e != api.OK {
		return e
	}
	for _, w := range b.Weighings {
		if e := cmp.Or(named(w.A, len(b.Masses)), named(w.B, len(b.Masses))); e != api.OK {
			return e
		}
		if w.A == w.B {
			return api.ErrForm
		}
		if e := checkSpan(w.Diff, 2*api.MaxOff); e != api.OK {
			return e
		}
	}
	return api.OK
}

func checkScales(b api.Bench) api.Errno {
	if e := counted(len(b.Scales), 1, api.MaxScales); e != api.OK {
		return e
	}
	for _, s := range b.Scales {
		if e := cmp.Or(checkSpan(s.First, api.MaxOff), checkSpan(s.Drift, api.MaxOff)); e != api.OK {
			return e
		}
	}
	return api.OK
}

func checkTrials(b api.Bench) api.Errno {
	if e := counted(len(b.Trials), 0, api.MaxTrials); e != api.OK {
		return e
	}
	for _, t := range b.Trials {
		e := cmp.Or(
			named(t.Scale, len(b.Scales)),
			named(t.Mass, len(b.Masses)),
			within(t.Day, 0, b.Days),
			within(t.Shown, 0, 2*api.MaxNominal),
		)
		if e != api.OK {
			return e
		}
	}
	return api.OK
}
