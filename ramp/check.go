package ramp

import (
	"cmp"
	"slices"

	"shambles/api"
	"shambles/bounds"
)

// Check returns the first error of a yard.
func Check(y api.Yard) api.Errno {
	return cmp.Or(
		checkRamps(y.Ramps),
		checkCarts(y.Carts, len(y.Ramps)),
		checkMinute(y.Sweep),
	)
}

// CheckPlan returns the first error of a yard, then that of a plan for all carts.
func CheckPlan(y api.Yard, plan []api.Slot) api.Errno {
	if e := cmp.Or(Check(y), bounds.Unless(len(plan) == len(y.Carts), api.ErrForm)); e != api.OK {
		return e
	}
	for cart, s := range plan {
		if e := checkSlot(y, y.Carts[cart], s); e != api.OK {
			return e
		}
	}
	return api.OK
}

func checkMinute(minute int) api.Errno { return bounds.Within(minute, 0, api.MaxDawn) }

// checkWindow returns the error of the minutes between which something has to be.
func checkWindow(from, until int) api.Errno {
	return bounds.Span(api.Span{Lo: from, Hi: until}, 0, api.MaxDawn)
}

func checkGrams(grams int) api.Errno { return bounds.Within(grams, 0, api.MaxGross) }

func checkRamps(ramps []api.Ramp) api.Errno {
	if e := bounds.Counted(len(ramps), 1, api.MaxRamps); e != api.OK {
		return e
	}
	for _, r := range ramps {
		if e := cmp.Or(checkWindow(r.Open, r.Shut), checkGrams(r.Bears)); e != api.OK {
			return e
		}
	}
	return api.OK
}

func checkCarts(carts []api.Cart, ramps int) api.Errno {
	if e := bounds.Counted(len(carts), 0, api.MaxCarts); e != api.OK {
		return e
	}
	for _, c := range carts {
		e := cmp.Or(
			checkWindow(c.From, c.Until),
			bounds.Span(c.Takes, 1, api.MaxDawn),
			checkGrams(c.Grams),
			bounds.Listed(c.Ramps, ramps),
		)
		if e != api.OK {
			return e
		}
	}
	return api.OK
}

// checkSlot returns the error of the slot of a cart of a valid yard.
func checkSlot(y api.Yard, c api.Cart, s api.Slot) api.Errno {
	if e := bounds.Named(s.Ramp, len(y.Ramps)); e != api.OK {
		return e
	}
	return cmp.Or(checkStand(c, s.Ramp, y.Ramps[s.Ramp]), checkMinute(s.From))
}

// checkStand returns an error unless a cart may stand on a ramp, of which the number is told too.
func checkStand(c api.Cart, number int, r api.Ramp) api.Errno {
	return cmp.Or(
		bounds.Unless(slices.Contains(c.Ramps, number), api.ErrKind),
		bounds.Unless(c.Grams <= r.Bears, api.ErrOver),
	)
}
