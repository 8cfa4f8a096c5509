package cold

import (
	"strings"

	"shambles/api"
	"shambles/rows"
)

// maxDigits is how many digits a number of a journal has at most.
const maxDigits = 6

// Write returns the journal of a cellar and its lots.
func Write(c api.Cellar, lots []api.Lot) (string, api.Errno) {
	if e := checkLots(c, lots); e != api.OK {
		return "", e
	}
	var journal strings.Builder
	row := func(word string, numbers ...int) { journal.WriteString(rows.Row(word, numbers...)) }
	row("hall", c.Hall.Lo, c.Hall.Hi)
	for _, b := range c.Boxes {
		row("box", b.Room, b.Ice.Lo, b.Ice.Hi, b.Melt.Lo, b.Melt.Hi, b.Cold.Lo, b.Cold.Hi, b.Warm.Lo, b.Warm.Hi)
	}
	for _, f := range c.Fillings {
		row("filling", f.Box, f.Hour, f.Grams)
	}
	for _, r := range c.Rates {
		row("rate", r.Above, r.Loss)
	}
	for _, l := range lots {
		row("lot", l.Born, l.Keeps)
		for _, s := range l.Stays {
			row("stay", s.Box, s.From, s.To)
		}
	}
	row("end", len(lots))
	if journal.Len() > api.MaxJournal {
		return "", api.ErrLong
	}
	return journal.String(), api.OK
}

// Read returns the cellar and the lots of a journal, or the number of the first row that is not as it has to be.
func Read(text string) (c api.Cellar, lots []api.Lot, row int, e api.Errno) {
	var r reader
	check := func() api.Errno { return checkLots(r.cellar, r.lots) }
	if row, e := rows.Read(text, api.MaxJournal, r.take, check); e != api.OK {
		return api.Cellar{}, nil, row, e
	}
	return r.cellar, r.lots, 0, api.OK
}

// Parts of a journal, in their order.
const (
	nothing = iota
	hall
	boxes
	fillings
	rates
	stock
	ended
)

// partOf returns to which part a row with this word belongs: nothing if there is no such row.
func partOf(word string) int {
	switch word {
	case "hall":
		return hall
	case "box":
		return boxes
	case "filling":
		return fillings
	case "rate":
		return rates
	case "lot", "stay":
		return stock
	case "end":
		return ended
	}
	return nothing
}

// reader keeps what was read of a journal, and the part in which it is.
type reader struct {
	cellar api.Cellar
	lots   []api.Lot
	part   int
}

// take keeps what the words of a row say, and says whether they are as they have to be.
func (r *reader) take(words []string) bool {
	part := partOf(words[0])
	numbers, ok := rows.All(words[1:], maxDigits, rows.Number)
	// The first row is that of the hall, and no other one is.
	if first := r.part == nothing; !ok || part < r.part || first != (part == hall) {
		return false
	}
	r.part = part
	return r.keep(words[0], numbers)
}

// keep keeps the numbers of a row that comes in order, and says whether they are as they have to be.
func (r *reader) keep(word string, n []int) bool {
	c, many := &r.cellar, len(r.lots)
	switch {
	case word == "hall" && len(n) == 2:
		c.Hall = spanOf(n)
	case word == "box" && len(n) == 9:
		c.Boxes = append(c.Boxes, api.Box{Room: n[0], Ice: spanOf(n[1:]), Melt: spanOf(n[3:]), Cold: spanOf(n[5:]), Warm: spanOf(n[7:])})
	case word == "filling" && len(n) == 3:
		c.Fillings = append(c.Fillings, api.Filling{Box: n[0], Hour: n[1], Grams: n[2]})
	case word == "rate" && len(n) == 2:
		c.Rates = append(c.Rates, api.Rate{Above: n[0], Loss: n[1]})
	case word == "lot" && len(n) == 2:
		r.lots = append(r.lots, api.Lot{Born: n[0], Keeps: n[1]})
	case word == "stay" && len(n) == 3 && many > 0:
		last := &r.lots[many-1]
		last.Stays = append(last.Stays, api.Stay{Box: n[0], From: n[1], To: n[2]})
	case word == "end" && len(n) == 1:
		return n[0] == many
	default:
		return false
	}
	return true
}

// spanOf returns the span that the first two of numbers are.
func spanOf(n []int) api.Span { return api.Span{Lo: n[0], Hi: n[1]} }
