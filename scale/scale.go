// Package scale is about scales and the masses by which they are tested: how far off each of them may be, what truly lies on a scale, which results contradict each other, and which tests keep all scales sealed.
package scale

import (
	"cmp"

	"shambles/api"
	"shambles/bounds"
)

// Offs returns for each mass the least and the greatest number by which it may be off.
func Offs(b api.Bench) ([]api.Span, api.Errno) {
	if e := Check(b); e != api.OK {
		return nil, e
	}
	t, ok := known(b)
	if !ok {
		return nil, api.ErrClash
	}
	offs := make([]api.Span, len(b.Masses))
	for i := range offs {
		offs[i] = t[massAt(i)][naught].span()
	}
	return offs, api.OK
}

// Errors returns for each day the least and the greatest error that a scale may have.
func Errors(b api.Bench, scale int) ([]api.Span, api.Errno) {
	if e := cmp.Or(Check(b), bounds.Named(scale, len(b.Scales))); e != api.OK {
		return nil, e
	}
	t, ok := known(b)
	if !ok {
		return nil, api.ErrClash
	}
	errors := make([]api.Span, b.Days+1)
	for day := range errors {
		errors[day] = t[naught][errorAt(b, scale, day)].span()
	}
	return errors, api.OK
}

// errorOn returns the least and the greatest error that a scale may have on a day; e is an error of the caller's own that comes after those of the bench, the scale and the day.
func errorOn(b api.Bench, scale, day int, e api.Errno) (api.Span, api.Errno) {
	e = cmp.Or(Check(b), bounds.Named(scale, len(b.Scales)), bounds.Within(day, 0, b.Days), e)
	if e != api.OK {
		return api.Span{}, e
	}
	errors, e := Errors(b, scale)
	if e != api.OK {
		return api.Span{}, e
	}
	return errors[day], api.OK
}

// Weight returns the least and the greatest weight that may truly lie on a scale that shows a number on a day.
func Weight(b api.Bench, scale, day, shown int) (api.Span, api.Errno) {
	s, e := errorOn(b, scale, day, bounds.Within(shown, 0, 2*api.MaxNominal))
	if e != api.OK {
		return api.Span{}, e
	}
	return api.Span{Lo: shown - s.Hi, Hi: shown - s.Lo}, api.OK
}

// Keeps returns the verdict whether a scale is within a limit on a day.
func Keeps(b api.Bench, scale, day, limit int) (int, api.Errno) {
	s, e := errorOn(b, scale, day, bounds.Within(limit, 0, api.MaxOff))
	if e != api.OK {
		return 0, e
	}
	return verdict(s, limit), api.OK
}

// verdict says whether an error is from -limit to limit.
func verdict(s api.Span, limit int) int {
	switch {
	case -limit <= s.Lo && s.Hi <= limit:
		return api.Sure
	case s.Hi < -limit || limit < s.Lo:
		return api.Never
	}
	return api.Open
}

// Clash returns the fewest results with which alone the bench may not be.
func Clash(b api.Bench) ([]int, api.Errno) {
	if e := Check(b); e != api.OK {
		return nil, e
	}
	if _, ok := known(b); ok {
		return nil, api.ErrMissing
	}
	return fewest(b), api.OK
}

// Lasts returns for how many days a scale is surely within the limit, or -1.
func Lasts(after, drift api.Span, limit int) (int, api.Errno) {
	e := cmp.Or(checkSpan(after, api.MaxOff), checkSpan(drift, api.MaxOff), bounds.Within(limit, 0, api.MaxOff))
	if e != api.OK {
		return 0, e
	}
	days := -1
	for days < api.MaxTerm && verdict(after, limit) == api.Sure {
		after = api.Span{Lo: after.Lo + drift.Lo, Hi: after.Hi + drift.Hi}
		days++
	}
	return days, api.OK
}
