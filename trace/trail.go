package trace

import (
	"strings"

	"shambles/api"
	"shambles/rows"
)

// maxDigits is how many digits a number of a trail has at most.
const maxDigits = 7

// Write returns the trail of a net.
func Write(n api.Net) (string, api.Errno) {
	if e := Check(n); e != api.OK {
		return "", e
	}
	var trail strings.Builder
	row := func(word string, numbers ...int) { trail.WriteString(rows.Row(word, numbers...)) }
	for _, grams := range n.Batches {
		row("batch", grams)
	}
	for _, m := range n.Moves {
		row("move", m.From, m.To, m.Grams)
	}
	row("end", len(n.Moves))
	return trail.String(), api.OK
}

// Read returns the net of a trail, or the number of the first row that is not as it has to be.
func Read(text string) (n api.Net, row int, e api.Errno) {
	var r reader
	check := func() api.Errno { return Check(r.net) }
	if row, e := rows.Read(text, api.MaxTrail, r.take, check); e != api.OK {
		return api.Net{}, row, e
	}
	return r.net, 0, api.OK
}

// reader keeps what was read of a trail.
type reader struct{ net api.Net }

// take keeps what the words of a row say, and says whether they are as they have to be.
func (r *reader) take(words []string) bool {
	numbers, ok := rows.All(words[1:], maxDigits, rows.Natural)
	if !ok {
		return false
	}
	moves := len(r.net.Moves)
	switch {
	case words[0] == "batch" && len(numbers) == 1 && moves == 0:
		r.net.Batches = append(r.net.Batches, numbers[0])
	case words[0] == "move" && len(numbers) == 3:
		r.net.Moves = append(r.net.Moves, api.Move{From: numbers[0], To: numbers[1], Grams: numbers[2]})
	case words[0] == "end" && len(numbers) == 1:
		return numbers[0] == moves
	default:
		return false
	}
	return true
}
