package beadle

import (
	"slices"
	"strconv"
	"strings"
)

// report returns rows about the desk. It asks as notes do, so that it tells what they would be replied.
func (d *day) report() string {
	var report strings.Builder
	row := func(word string, number int, told ...string) {
		words := slices.Concat([]string{word, strconv.Itoa(number)}, told)
		report.WriteString(line(words...) + "\n")
	}
	row("minute", d.Minute)
	for stall := range d.market.Letting.Stalls {
		row("stall", stall, holderWord(d.holder(stall)), reply(d.due(stall)))
	}
	for good := range d.market.Goods {
		row("good", good, reply(d.price(good)))
	}
	for lot := range d.market.Lots {
		row("lot", lot, d.lotWords(lot))
	}
	row("end", len(d.Sales))
	return report.String()
}

// lotWords returns that a lot is served, or what a note that asks whether it is fresh would be replied.
func (d *day) lotWords(lot int) string {
	if d.isServed(lot) {
		return "served"
	}
	return reply(d.fresh(lot))
}
