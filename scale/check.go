package scale

import (
	"cmp"

	"shambles/api"
	"shambles/bounds"
)

// Check returns the first error of a bench.
func Check(b api.Bench) api.Errno {
	return cmp.Or(
		checkMasses(b),
		checkWeighings(b),
		checkScales(b),
		bounds.Within(b.Days, 0, api.MaxWatch),
		checkTrials(b),
	)
}

// checkSpan returns the error of a span from -bound to bound.
func checkSpan(s api.Span, bound int) api.Errno { return bounds.Span(s, -bound, bound) }

func checkMasses(b api.Bench) api.Errno {
	if e := bounds.Counted(len(b.Masses), 1, api.MaxMasses); e != api.OK {
		return e
	}
	for _, m := range b.Masses {
		if e := cmp.Or(bounds.Within(m.Nominal, 1, api.MaxNominal), checkSpan(m.Off, api.MaxOff)); e != api.OK {
			return e
		}
	}
	return api.OK
}

func checkWeighings(b api.Bench) api.Errno {
	if e := bounds.Counted(len(b.Weighings), 0, api.MaxWeighings); e != api.OK {
		return e
	}
	for _, w := range b.Weighings {
		if e := cmp.Or(bounds.Named(w.A, len(b.Masses)), bounds.Named(w.B, len(b.Masses))); e != api.OK {
			return e
		}
		if w.A == w.B {
			return api.ErrForm
		}
		if e := checkSpan(w.Diff, 2*api.MaxOff); e != api.OK {
			return e
		}
	}
	return api.OK
}

func checkScales(b api.Bench) api.Errno {
	if e := bounds.Counted(len(b.Scales), 1, api.MaxScales); e != api.OK {
		return e
	}
	for _, s := range b.Scales {
		if e := cmp.Or(checkSpan(s.First, api.MaxOff), checkSpan(s.Drift, api.MaxOff)); e != api.OK {
			return e
		}
	}
	return api.OK
}

func checkTrials(b api.Bench) api.Errno {
	if e := bounds.Counted(len(b.Trials), 0, api.MaxTrials); e != api.OK {
		return e
	}
	for _, t := range b.Trials {
		e := cmp.Or(
			bounds.Named(t.Scale, len(b.Scales)),
			bounds.Named(t.Mass, len(b.Masses)),
			bounds.Within(t.Day, 0, b.Days),
			bounds.Within(t.Shown, 0, 2*api.MaxNominal),
		)
		if e != api.OK {
			return e
		}
	}
	return api.OK
}
