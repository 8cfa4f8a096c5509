package ramp

import (
	"strings"

	"shambles/api"
	"shambles/rows"
)

// maxDigits is how many digits a number of a roster has at most.
const maxDigits = 7

// Write returns the roster of a yard.
func Write(y api.Yard) (string, api.Errno) {
	if e := Check(y); e != api.OK {
		return "", e
	}
	var roster strings.Builder
	row := func(word string, numbers ...int) { roster.WriteString(rows.Row(word, numbers...)) }
	row("yard", y.Sweep)
	for _, r := range y.Ramps {
		row("ramp", r.Open, r.Shut, r.Bears)
	}
	for _, c := range y.Carts {
		row("cart", append([]int{c.From, c.Until, c.Takes.Lo, c.Takes.Hi, c.Grams}, c.Ramps...)...)
	}
	row("end", len(y.Carts))
	return roster.String(), api.OK
}

// Read returns the yard of a roster, or the number of the first row that is not as it has to be.
func Read(text string) (y api.Yard, row int, e api.Errno) {
	var r reader
	check := func() api.Errno { return Check(r.yard) }
	if row, e := rows.Read(text, api.MaxRoster, r.take, check); e != api.OK {
		return api.Yard{}, row, e
	}
	return r.yard, 0, api.OK
}

// reader keeps what was read of a roster, and whether its first row was.
type reader struct {
	yard  api.Yard
	begun bool
}

// take keeps what the words of a row say, and says whether they are as they have to be.
func (r *reader) take(words []string) bool {
	numbers, ok := rows.All(words[1:], maxDigits, rows.Natural)
	// The first row is that of the yard, and no other one is.
	if !ok || r.begun == (words[0] == "yard") {
		return false
	}
	r.begun = true
	return r.keep(words[0], numbers)
}

// keep keeps the numbers of a row, and says whether they are as they have to be.
func (r *reader) keep(word string, n []int) bool {
	y, carts := &r.yard, len(r.yard.Carts)
	switch {
	case word == "yard" && len(n) == 1:
		y.Sweep = n[0]
	case word == "ramp" && len(n) == 3 && carts == 0:
		y.Ramps = append(y.Ramps, api.Ramp{Open: n[0], Shut: n[1], Bears: n[2]})
	case word == "cart" && len(n) >= 5:
		takes := api.Span{Lo: n[2], Hi: n[3]}
		y.Carts = append(y.Carts, api.Cart{From: n[0], Until: n[1], Takes: takes, Grams: n[4], Ramps: n[5:]})
	case word == "end" && len(n) == 1:
		return n[0] == carts
	default:
		return false
	}
	return true
}
