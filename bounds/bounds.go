// Package bounds has what all layers share of numbers, spans and verdicts: their checks, and sums of spans.
package bounds

import (
	"cmp"

	"shambles/api"
)

// Within returns ErrRange unless a number is from least to most.
func Within(number, least, most int) api.Errno {
	if number < least || number > most {
		return api.ErrRange
	}
	return api.OK
}

// Named returns ErrMissing unless a number is that of one of so many things.
func Named(number, many int) api.Errno {
	if number < 0 || number >= many {
		return api.ErrMissing
	}
	return api.OK
}

// Counted returns an error unless there are from least to most things.
func Counted(many, least, most int) api.Errno {
	switch {
	case many < least:
		return api.ErrShort
	case many > most:
		return api.ErrFull
	}
	return api.OK
}

// Span returns the error of a span unless both of its numbers are from least to most, in their order.
func Span(s api.Span, least, most int) api.Errno {
	if e := cmp.Or(Within(s.Lo, least, most), Within(s.Hi, least, most)); e != api.OK {
		return e
	}
	if s.Lo > s.Hi {
		return api.ErrOrder
	}
	return api.OK
}

// Unless returns an error unless something holds.
func Unless(holds bool, e api.Errno) api.Errno {
	if holds {
		return api.OK
	}
	return e
}

// Listed returns the first error of a list of numbers, each of which is that of one of so many things, and greater than the one before.
func Listed(numbers []int, many int) api.Errno {
	before := -1
	for _, n := range numbers {
		if e := cmp.Or(Named(n, many), Unless(n > before, api.ErrOrder)); e != api.OK {
			return e
		}
		before = n
	}
	return api.OK
}

// Sum returns the least and the greatest that numbers of some spans may be together.
func Sum(spans ...api.Span) api.Span {
	var all api.Span
	for _, s := range spans {
		all.Lo += s.Lo
		all.Hi += s.Hi
	}
	return all
}

// Verdict says what follows if something is so in what is best for it, and in what is worst.
func Verdict(best, worst bool) int {
	switch {
	case worst:
		return api.Sure
	case best:
		return api.Open
	}
	return api.Never
}
