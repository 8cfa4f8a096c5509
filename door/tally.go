package door

import (
	"slices"
	"strings"

	"shambles/api"
	"shambles/rows"
)

// maxDigits is how many digits a number of a tally has at most.
const maxDigits = 6

// Write returns the tally of a house.
func Write(h api.House) (string, api.Errno) {
	if e := Check(h); e != api.OK {
		return "", e
	}
	var tally strings.Builder
	row := func(word string, numbers ...int) { tally.WriteString(rows.Row(word, numbers...)) }
	row("house", h.First.Lo, h.First.Hi, h.Ticks)
	for _, many := range h.Holds {
		row("hall", many)
	}
	for _, d := range h.Doors {
		row("door", d.A, d.B, d.Flow)
	}
	for _, c := range h.Counts {
		row("count", c.Tick, c.Door, c.In.Lo, c.In.Hi, c.Out.Lo, c.Out.Hi)
	}
	row("end", len(h.Counts))
	return tally.String(), api.OK
}

// Read returns the house of a tally, or the number of the first row that is not as it has to be.
func Read(text string) (h api.House, row int, e api.Errno) {
	var r reader
	check := func() api.Errno { return Check(r.house) }
	if row, e := rows.Read(text, api.MaxTally, r.take, check); e != api.OK {
		return api.House{}, row, e
	}
	return r.house, 0, api.OK
}

// nothing stands for the word of the row before the first one.
const nothing = ""

// next returns the words of the rows that may come behind one with the last word.
func next(last string) []string {
	var words []string
	switch last {
	case nothing:
		words = append(words, "house")
	case "house", "hall":
		words = append(words, "hall")
		fallthrough
	case "door":
		words = append(words, "door")
		fallthrough
	case "count":
		words = append(words, "count", "end")
	}
	return words
}

// reader keeps what was read of a tally, and the word of the last row.
type reader struct {
	house api.House
	last  string
}

// take keeps what the words of a row say, and says whether they are as they have to be.
func (r *reader) take(words []string) bool {
	numbers, ok := rows.All(words[1:], maxDigits, rows.Number)
	if !ok || !slices.Contains(next(r.last), words[0]) {
		return false
	}
	r.last = words[0]
	return r.keep(numbers)
}

// keep keeps the numbers of the last row, and says whether they are as they have to be.
func (r *reader) keep(n []int) bool {
	h := &r.house
	switch {
	case r.last == "house" && len(n) == 3:
		h.First, h.Ticks = api.Span{Lo: n[0], Hi: n[1]}, n[2]
	case r.last == "hall" && len(n) == 1:
		h.Holds = append(h.Holds, n[0])
	case r.last == "door" && len(n) == 3:
		h.Doors = append(h.Doors, api.Door{A: n[0], B: n[1], Flow: n[2]})
	case r.last == "count" && len(n) == 6:
		in, out := api.Span{Lo: n[2], Hi: n[3]}, api.Span{Lo: n[4], Hi: n[5]}
		h.Counts = append(h.Counts, api.Count{Tick: n[0], Door: n[1], In: in, Out: out})
	case r.last == "end" && len(n) == 1:
		return n[0] == len(h.Counts)
	default:
		return false
	}
	return true
}
