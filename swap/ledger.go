package swap

import (
	"strings"

	"shambles/api"
	"shambles/rows"
)

// maxDigits is how many digits a number of a ledger has at most.
const maxDigits = 3

// Write returns the ledger of a trade.
func Write(t api.Trade) (string, api.Errno) {
	if e := Check(t); e != api.OK {
		return "", e
	}
	var ledger strings.Builder
	row := func(word string, numbers ...int) { ledger.WriteString(rows.Row(word, numbers...)) }
	for trader, own := range t.Owns {
		row("trader", own.Stall, own.Day)
		for _, turn := range t.Likes[trader] {
			row("like", turn.Stall, turn.Day)
		}
	}
	row("end", len(t.Owns))
	return ledger.String(), api.OK
}

// Read returns the trade of a ledger, or the number of the first row that is not as it has to be.
func Read(text string) (t api.Trade, row int, e api.Errno) {
	var r reader
	check := func() api.Errno { return Check(r.trade) }
	if row, e := rows.Read(text, api.MaxLedger, r.take, check); e != api.OK {
		return api.Trade{}, row, e
	}
	return r.trade, 0, api.OK
}

// reader keeps what was read of a ledger.
type reader struct{ trade api.Trade }

// take keeps what the words of a row say, and says whether they are as they have to be.
func (r *reader) take(words []string) bool {
	numbers, ok := rows.All(words[1:], maxDigits, rows.Natural)
	if !ok {
		return false
	}
	t, traders := &r.trade, len(r.trade.Owns)
	switch {
	case words[0] == "trader" && len(numbers) == 2:
		t.Owns = append(t.Owns, api.Turn{Stall: numbers[0], Day: numbers[1]})
		t.Likes = append(t.Likes, nil)
	case words[0] == "like" && len(numbers) == 2 && traders > 0:
		t.Likes[traders-1] = append(t.Likes[traders-1], api.Turn{Stall: numbers[0], Day: numbers[1]})
	case words[0] == "end" && len(numbers) == 1:
		return numbers[0] == traders
	default:
		return false
	}
	return true
}
