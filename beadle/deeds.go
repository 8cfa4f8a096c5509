package beadle

import (
	"slices"
	"strconv"

	"shambles/api"
	"shambles/bounds"
	"shambles/cold"
	"shambles/price"
	"shambles/stall"
	"shambles/swap"
)

func (d *day) at(n ...int) (deed, api.Errno) {
	do := func() string {
		d.Minute = n[0]
		return done
	}
	return do, bounds.Within(n[0], d.Minute, api.MaxMinute)
}

func (d *day) let(...int) (deed, api.Errno) {
	do := func() string {
		// Nothing in a valid market, nor in what is kept of its day, has an error, here and below.
		d.Holders, _ = stall.Let(d.market.Letting)
		return holderWords(d.Holders)
	}
	return do, bounds.Unless(!d.isLet(), api.ErrState)
}

func (d *day) swap(...int) (deed, api.Errno) {
	do := func() string {
		d.Holders = d.swapped()
		return holderWords(d.Holders)
	}
	return do, d.checkLet()
}

// swapped returns the holders after a swap. Stalls without a holder take no part in it.
func (d *day) swapped() []int {
	trade, applicants, _ := swap.From(d.market.Letting, d.Holders, d.market.Day)
	turns, _ := swap.Swap(trade)
	holders := slices.Clone(d.Holders)
	for trader, turn := range turns {
		holders[turn.Stall] = applicants[trader]
	}
	return holders
}

func (d *day) holders(...int) (deed, api.Errno) {
	return func() string { return holderWords(d.Holders) }, d.checkLet()
}

func (d *day) envies(...int) (deed, api.Errno) {
	do := func() string {
		envies, _ := stall.Envies(d.market.Letting, d.Holders)
		return envyWords(envies)
	}
	return do, d.checkLet()
}

func (d *day) ice(n ...int) (deed, api.Errno) {
	grams, e := cold.Ice(d.market.Cellar, n[0], d.hour())
	return func() string { return spanWords(grams) }, e
}

func (d *day) fresh(n ...int) (deed, api.Errno) {
	verdict, e := d.freshness(n[0])
	return func() string { return verdictWord(verdict) }, e
}

func (d *day) serve(n ...int) (deed, api.Errno) {
	do := func() string {
		d.Served = append(d.Served, n[0])
		return done
	}
	return do, first(n[0], d.checkLot, d.checkLeft, d.checkFresh)
}

func (d *day) sold(n ...int) (deed, api.Errno) {
	more := d.book()
	more.Sales = append(more.Sales, api.Sale{
		Stall: n[0],
		Good:  n[1],
		Grams: api.Span{Lo: n[2], Hi: n[3]},
		Cents: api.Span{Lo: n[4], Hi: n[5]},
	})
	do := func() string {
		d.Sales = more.Sales
		return done
	}
	checkMore := func(int) api.Errno { return price.Check(more) }
	return do, first(n[0], d.checkStall, d.checkHeld, checkMore)
}

func (d *day) found(n ...int) (deed, api.Errno) {
	finds := append(d.Finds, api.Found{Sale: n[0], Grams: n[1], Cents: n[2]})
	do := func() string {
		d.Finds = finds
		return done
	}
	_, e := price.Audited(d.book(), finds)
	return do, e
}

func (d *day) price(n ...int) (deed, api.Errno) {
	verdict, cents, e := price.Price(d.audited(), n[0])
	return func() string { return line(verdictWord(verdict), spanWords(cents)) }, e
}

func (d *day) due(n ...int) (deed, api.Errno) {
	do := func() string {
		dues, _ := price.Dues(d.audited(), d.market.Steps)
		return spanWords(dues[n[0]])
	}
	return do, d.checkStall(n[0])
}

func (d *day) seal(...int) (deed, api.Errno) {
	seal, e := price.Seal(d.book())
	return func() string { return strconv.Itoa(seal) }, e
}
