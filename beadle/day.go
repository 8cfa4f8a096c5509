package beadle

import (
	"cmp"
	"slices"

	"shambles/api"
	"shambles/bounds"
	"shambles/cold"
	"shambles/price"
)

// nobody stands where a stall has no holder.
const nobody = -1

// anHour is how many minutes an hour has.
const anHour = 60

// day is a day of a valid market, with what the beadle keeps of it.
type day struct {
	api.Desk
	market api.Market
}

func (d *day) hour() int { return d.Minute / anHour }

// isLet says whether the stalls are let. A market has one at least, so there are holders then.
func (d *day) isLet() bool { return len(d.Holders) > 0 }

// holder returns who has a stall, or nobody.
func (d *day) holder(stall int) int {
	if !d.isLet() {
		return nobody
	}
	return d.Holders[stall]
}

func (d *day) isServed(lot int) bool { return slices.Contains(d.Served, lot) }

// freshness returns the verdict whether a lot is fresh at the hour.
func (d *day) freshness(lot int) (int, api.Errno) {
	if e := d.checkLot(lot); e != api.OK {
		return 0, e
	}
	return cold.Fresh(d.market.Cellar, d.market.Lots[lot], d.hour())
}

func (d *day) book() api.Book {
	return api.Book{Stalls: len(d.market.Letting.Stalls), Goods: d.market.Goods, Sales: d.Sales}
}

// audited returns the audited book. Finds are only taken if they have no error.
func (d *day) audited() api.Book {
	b, _ := price.Audited(d.book(), d.Finds)
	return b
}

// first asks for the errors of a number, one after the other, and returns the first one.
func first(number int, asked ...func(number int) api.Errno) api.Errno {
	for _, ask := range asked {
		if e := ask(number); e != api.OK {
			return e
		}
	}
	return api.OK
}

func (d *day) checkLet() api.Errno { return bounds.Unless(d.isLet(), api.ErrState) }

func (d *day) checkStall(stall int) api.Errno {
	return bounds.Named(stall, len(d.market.Letting.Stalls))
}

func (d *day) checkHeld(stall int) api.Errno {
	return bounds.Unless(d.holder(stall) != nobody, api.ErrState)
}

func (d *day) checkLot(lot int) api.Errno { return bounds.Named(lot, len(d.market.Lots)) }

func (d *day) checkLeft(lot int) api.Errno { return bounds.Unless(!d.isServed(lot), api.ErrExists) }

func (d *day) checkFresh(lot int) api.Errno {
	verdict, e := d.freshness(lot)
	return cmp.Or(e, bounds.Unless(verdict == api.Sure, api.ErrLate))
}
