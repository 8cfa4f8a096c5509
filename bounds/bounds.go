// Package bounds has the checks of numbers that all layers share.
package bounds

import "shambles/api"

// Within returns ErrRange unless a number is from least to most.
func Within(number, least, most int) api.Errno {
	if number < least || number > most {
		return api.ErrRange
	}
	return api.OK
}

// Named returns ErrMissing unless a number is that of one of so many things.
func Named(number, many int) api.Errno {
	if number < 0 || number >= many {
		return api.ErrMissing
	}
	return api.OK
}

// Counted returns an error unless there are from least to most things.
func Counted(many, least, most int) api.Errno {
	switch {
	case many < least:
		return api.ErrShort
	case many > most:
		return api.ErrFull
	}
	return api.OK
}
