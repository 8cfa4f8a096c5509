package door

import (
	"cmp"

	"shambles/api"
	"shambles/bounds"
)

// outside is where doors lead that lead to no hall.
const outside = -1

// Check returns the first error of a house.
func Check(h api.House) api.Errno {
	return cmp.Or(
		checkHalls(h.Holds),
		checkDoors(h.Doors, len(h.Holds)),
		checkSpan(h.First),
		checkTicks(h.Ticks),
		checkCounts(h),
	)
}

func checkPeople(many int) api.Errno { return bounds.Within(many, 0, api.MaxPeople) }

func checkSpan(people api.Span) api.Errno { return bounds.Span(people, 0, api.MaxPeople) }

func checkTicks(ticks int) api.Errno { return bounds.Within(ticks, 0, api.MaxTicks) }

func checkHalls(holds []int) api.Errno {
	return cmp.Or(bounds.Counted(len(holds), 1, api.MaxHalls), checkEach(holds))
}

// checkEach returns the first error of the numbers of people in halls.
func checkEach(people []int) api.Errno {
	for _, many := range people {
		if e := checkPeople(many); e != api.OK {
			return e
		}
	}
	return api.OK
}

func checkDoors(doors []api.Door, halls int) api.Errno {
	if e := bounds.Counted(len(doors), 0, api.MaxDoors); e != api.OK {
		return e
	}
	for _, d := range doors {
		e := cmp.Or(
			checkEnd(d.A, halls),
			checkEnd(d.B, halls),
			bounds.Unless(d.A != d.B, api.ErrForm),
			checkPeople(d.Flow),
		)
		if e != api.OK {
			return e
		}
	}
	return api.OK
}

// checkEnd returns the error of an end of a door.
func checkEnd(end, halls int) api.Errno {
	if end == outside {
		return api.OK
	}
	return bounds.Named(end, halls)
}

func checkCounts(h api.House) api.Errno {
	if e := bounds.Counted(len(h.Counts), 0, api.MaxCounts); e != api.OK {
		return e
	}
	before := counts{}
	for _, c := range h.Counts {
		at := turn{c.Tick, c.Door}
		_, known := before[at]
		e := cmp.Or(
			checkTurn(h, at),
			bounds.Unless(!known, api.ErrExists),
			checkSpan(c.In),
			checkSpan(c.Out),
		)
		if e != api.OK {
			return e
		}
		before[at] = c
	}
	return api.OK
}

// checkTurn returns the error of when, and at which door, people are counted.
func checkTurn(h api.House, at turn) api.Errno {
	tick, door := at[0], at[1]
	if e := cmp.Or(bounds.Within(tick, 0, h.Ticks-1), bounds.Named(door, len(h.Doors))); e != api.OK {
		return e
	}
	d := h.Doors[door]
	return bounds.Unless(d.A == outside || d.B == outside, api.ErrKind)
}

// checkLeaving returns the first error of a house, then that of so many ticks to leave it, then that of closed doors.
func checkLeaving(h api.House, ticks int, closed []int) api.Errno {
	return cmp.Or(Check(h), checkTicks(ticks), bounds.Listed(closed, len(h.Doors)))
}

// CheckKitchen returns the first error of a kitchen.
func CheckKitchen(k api.Kitchen) api.Errno {
	return cmp.Or(checkMeals(k.Meals), checkGifts(k))
}

func checkPortions(portions int) api.Errno { return bounds.Within(portions, 0, api.MaxPortion) }

func checkMeals(meals []int) api.Errno {
	if e := bounds.Counted(len(meals), 0, api.MaxMeals); e != api.OK {
		return e
	}
	for _, portions := range meals {
		if e := checkPortions(portions); e != api.OK {
			return e
		}
	}
	return api.OK
}

func checkGifts(k api.Kitchen) api.Errno {
	if e := bounds.Counted(len(k.Gifts), 0, api.MaxGifts); e != api.OK {
		return e
	}
	for _, g := range k.Gifts {
		e := cmp.Or(
			bounds.Named(g.From, len(k.Meals)),
			bounds.Named(g.Keeps, len(k.Meals)),
			bounds.Unless(g.From <= g.Keeps, api.ErrOrder),
			checkPortions(g.Portions),
		)
		if e != api.OK {
			return e
		}
	}
	return api.OK
}
