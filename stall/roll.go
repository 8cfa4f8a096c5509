package stall

import (
	"strconv"
	"strings"

	"shambles/api"
	"shambles/rows"
)

// maxDigits is how many digits a number of a roll has at most.
const maxDigits = 10

// noHeir is what a roll has in the place of an heir if there is none.
const noHeir = "-"

// ruleWords are the words of the rules, from LetLot on.
var ruleWords = [3]string{"lot", "years", "bid"}

// Write returns the roll of a letting.
func Write(l api.Letting) (string, api.Errno) {
	if e := Check(l); e != api.OK {
		return "", e
	}
	var roll strings.Builder
	for _, s := range l.Stalls {
		roll.WriteString(rowOf("stall", ruleWords[s.Rule-api.LetLot], strconv.Itoa(s.Least), heirWord(s.Heir)))
	}
	for _, a := range l.Applicants {
		roll.WriteString(rowOf("applicant", strconv.Itoa(a.Years), strconv.Itoa(a.Token)))
		for stall, bid := range wishes(a) {
			roll.WriteString(rowOf("wish", strconv.Itoa(stall), strconv.Itoa(bid)))
		}
	}
	roll.WriteString(rowOf("end", strconv.Itoa(len(l.Applicants))))
	return roll.String(), api.OK
}

func rowOf(words ...string) string { return strings.Join(words, " ") + "\n" }

func heirWord(heir int) string {
	if heir == nobody {
		return noHeir
	}
	return strconv.Itoa(heir)
}

// Read returns the letting of a roll, or the number of the first row that is not as it has to be.
func Read(text string) (l api.Letting, row int, e api.Errno) {
	var r reader
	check := func() api.Errno { return Check(r.letting) }
	if row, e := rows.Read(text, api.MaxRoll, r.take, check); e != api.OK {
		return api.Letting{}, row, e
	}
	return r.letting, 0, api.OK
}

// reader keeps what was read of a roll.
type reader struct{ letting api.Letting }

// take keeps what the words of a row say, and says whether they are as they have to be.
func (r *reader) take(words []string) bool {
	if words[0] == "stall" {
		return r.takeStall(words[1:])
	}
	numbers, ok := rows.All(words[1:], maxDigits, rows.Natural)
	if !ok {
		return false
	}
	many := len(r.letting.Applicants)
	switch {
	case words[0] == "applicant" && len(numbers) == 2:
		r.letting.Applicants = append(r.letting.Applicants, api.Applicant{Years: numbers[0], Token: numbers[1]})
	case words[0] == "wish" && len(numbers) == 2 && many > 0:
		last := &r.letting.Applicants[many-1]
		last.Wishes = append(last.Wishes, numbers[0])
		last.Bids = append(last.Bids, numbers[1])
	case words[0] == "end" && len(numbers) == 1:
		return numbers[0] == many
	default:
		return false
	}
	return true
}

// takeStall keeps what the words behind "stall" say.
func (r *reader) takeStall(words []string) bool {
	if len(words) != 3 || len(r.letting.Applicants) > 0 {
		return false
	}
	rule, ruled := ruleOf(words[0])
	least, ok := rows.Natural(words[1], maxDigits)
	heir, named := heirOf(words[2])
	if !ruled || !ok || !named {
		return false
	}
	r.letting.Stalls = append(r.letting.Stalls, api.Stall{Rule: rule, Least: least, Heir: heir})
	return true
}

// ruleOf returns the rule that a word means, and whether there is one.
func ruleOf(word string) (int, bool) {
	for i, w := range ruleWords {
		if w == word {
			return api.LetLot + i, true
		}
	}
	return 0, false
}

// heirOf returns the heir that a word means, and whether it means one, or none.
func heirOf(word string) (int, bool) {
	if word == noHeir {
		return nobody, true
	}
	return rows.Natural(word, maxDigits)
}
