package cold

import (
	"cmp"

	"shambles/api"
	"shambles/bounds"
)

// Check returns the first error of a cellar.
func Check(c api.Cellar) api.Errno {
	return cmp.Or(
		checkWarmth(c.Hall),
		checkBoxes(c.Boxes),
		checkFillings(c),
		checkRates(c.Rates),
	)
}

// CheckLot returns the first error of a cellar, then that of a lot.
func CheckLot(c api.Cellar, l api.Lot) api.Errno { return cmp.Or(Check(c), checkLot(c, l)) }

func checkWarmth(s api.Span) api.Errno { return bounds.Span(s, api.MinWarm, api.MaxWarm) }

func checkHour(hour int) api.Errno { return bounds.Within(hour, 0, api.MaxHours-1) }

func checkBox(c api.Cellar, box int) api.Errno { return bounds.Named(box, len(c.Boxes)) }

func checkBoxes(boxes []api.Box) api.Errno {
	if e := bounds.Counted(len(boxes), 0, api.MaxBoxes); e != api.OK {
		return e
	}
	for _, b := range boxes {
		e := cmp.Or(
			bounds.Within(b.Room, 0, api.MaxIce),
			bounds.Span(b.Ice, 0, b.Room),
			bounds.Span(b.Melt, 0, api.MaxIce),
			checkWarmth(b.Cold),
			checkWarmth(b.Warm),
			bounds.Unless(b.Cold.Hi <= b.Warm.Lo, api.ErrClash),
		)
		if e != api.OK {
			return e
		}
	}
	return api.OK
}

func checkFillings(c api.Cellar) api.Errno {
	if e := bounds.Counted(len(c.Fillings), 0, api.MaxFillings); e != api.OK {
		return e
	}
	before := 0
	for _, f := range c.Fillings {
		e := cmp.Or(
			checkBox(c, f.Box),
			checkHour(f.Hour),
			bounds.Within(f.Grams, 0, api.MaxIce),
			bounds.Unless(f.Hour >= before, api.ErrOrder),
		)
		if e != api.OK {
			return e
		}
		before = f.Hour
	}
	return api.OK
}

func checkRates(rates []api.Rate) api.Errno {
	if e := bounds.Counted(len(rates), 1, api.MaxRates); e != api.OK {
		return e
	}
	before := api.Rate{Above: api.MinWarm - 1}
	for _, r := range rates {
		e := cmp.Or(
			bounds.Within(r.Above, api.MinWarm, api.MaxWarm),
			bounds.Within(r.Loss, 0, api.MaxLoss),
			bounds.Unless(r.Above > before.Above && r.Loss >= before.Loss, api.ErrOrder),
		)
		if e != api.OK {
			return e
		}
		before = r
	}
	return api.OK
}

// checkLot returns the error of a lot for a valid cellar.
func checkLot(c api.Cellar, l api.Lot) api.Errno {
	e := cmp.Or(
		checkHour(l.Born),
		bounds.Within(l.Keeps, 0, api.MaxKeeps),
		bounds.Counted(len(l.Stays), 0, api.MaxStays),
	)
	if e != api.OK {
		return e
	}
	// No stay ends before the lot is born: what is not before the last one is not before that either.
	free := l.Born
	for _, s := range l.Stays {
		e := cmp.Or(
			checkBox(c, s.Box),
			bounds.Within(s.From, 0, api.MaxHours),
			bounds.Within(s.To, 0, api.MaxHours),
			bounds.Unless(s.From < s.To && s.From >= free, api.ErrOrder),
		)
		if e != api.OK {
			return e
		}
		free = s.To
	}
	return api.OK
}

// checkLots returns the first error of a cellar, then that of lots.
func checkLots(c api.Cellar, lots []api.Lot) api.Errno {
	if e := cmp.Or(Check(c), bounds.Counted(len(lots), 0, api.MaxLots)); e != api.OK {
		return e
	}
	for _, l := range lots {
		if e := checkLot(c, l); e != api.OK {
			return e
		}
	}
	return api.OK
}

func checkVisits(visits []int) api.Errno {
	if e := bounds.Counted(len(visits), 1, api.MaxVisits); e != api.OK {
		return e
	}
	before := -1
	for _, hour := range visits {
		if e := cmp.Or(checkHour(hour), bounds.Unless(hour > before, api.ErrOrder)); e != api.OK {
			return e
		}
		before = hour
	}
	return api.OK
}
