package vault

import (
	"slices"
	"strings"

	"shambles/api"
	"shambles/rows"
)

// maxDigits is how many digits a number of a drawing has at most.
const maxDigits = 8

// Write returns the drawing of a hall.
func Write(h api.Hall) (string, api.Errno) {
	if e := Check(h); e != api.OK {
		return "", e
	}
	var drawing strings.Builder
	row := func(word string, numbers ...int) { drawing.WriteString(rows.Row(word, numbers...)) }
	row("hall", h.Wide, h.Deep, h.Bay.X, h.Bay.Y)
	for _, c := range h.Water {
		row("water", c.X, c.Y)
	}
	for _, c := range h.Shut {
		row("shut", c.X, c.Y)
	}
	for _, bears := range h.Bears {
		row("bears", bears)
	}
	for _, k := range h.Kinds {
		water := 0
		if k.Water {
			water = 1
		}
		row("kind", append([]int{k.Load.Lo, k.Load.Hi, water, k.Rent, k.Most}, k.Away...)...)
	}
	row("end", len(h.Kinds))
	return drawing.String(), api.OK
}

// Read returns the hall of a drawing, or the number of the first row that is not as it has to be.
func Read(text string) (h api.Hall, row int, e api.Errno) {
	var r reader
	check := func() api.Errno { return Check(r.hall) }
	if row, e := rows.Read(text, api.MaxDrawing, r.take, check); e != api.OK {
		return api.Hall{}, row, e
	}
	return r.hall, 0, api.OK
}

// nothing stands for the word of the row before the first one.
const nothing = ""

// reader keeps what was read of a drawing, and the word of the last row.
type reader struct {
	hall api.Hall
	last string
}

// follows says whether a row with a word may come behind one with the last word.
func follows(word, last string) bool {
	var before []string
	switch word {
	case "hall":
		before = append(before, nothing)
	case "end", "kind":
		before = append(before, "kind")
		fallthrough
	case "bears":
		before = append(before, "bears")
		fallthrough
	case "shut":
		before = append(before, "shut")
		fallthrough
	case "water":
		before = append(before, "water", "hall")
	}
	return slices.Contains(before, last)
}

// take keeps what the words of a row say, and says whether they are as they have to be.
func (r *reader) take(words []string) bool {
	numbers, ok := rows.All(words[1:], maxDigits, rows.Natural)
	if !ok || !follows(words[0], r.last) {
		return false
	}
	r.last = words[0]
	switch many := len(numbers); {
	case r.last == "hall" && many == 4:
		r.hall.Wide, r.hall.Deep = numbers[0], numbers[1]
		r.hall.Bay = api.Cell{X: numbers[2], Y: numbers[3]}
	case r.last == "water" && many == 2:
		r.hall.Water = append(r.hall.Water, api.Cell{X: numbers[0], Y: numbers[1]})
	case r.last == "shut" && many == 2:
		r.hall.Shut = append(r.hall.Shut, api.Cell{X: numbers[0], Y: numbers[1]})
	case r.last == "bears" && many == 1:
		r.hall.Bears = append(r.hall.Bears, numbers[0])
	case r.last == "kind" && many >= 5 && numbers[2] <= 1:
		r.hall.Kinds = append(r.hall.Kinds, kindOf(numbers))
	case r.last == "end" && many == 1:
		return numbers[0] == len(r.hall.Kinds)
	default:
		return false
	}
	return true
}

// kindOf returns the kind that the numbers of a row tell.
func kindOf(n []int) api.Kind {
	return api.Kind{Load: api.Span{Lo: n[0], Hi: n[1]}, Water: n[2] == 1, Rent: n[3], Most: n[4], Away: slices.Clone(n[5:])}
}
