package beadle

import (
	"strconv"
	"strings"

	"shambles/api"
)

// done is the reply to a note that asks for nothing.
const done = "ok"

// verdicts are the words of the verdicts, from Sure on.
var verdicts = [3]string{"sure", "never", "open"}

func verdictWord(verdict int) string { return verdicts[verdict-api.Sure] }

// line returns words, separated by one blank each.
func line(words ...string) string { return strings.Join(words, " ") }

func spanWords(s api.Span) string { return line(strconv.Itoa(s.Lo), strconv.Itoa(s.Hi)) }

func holderWord(holder int) string {
	if holder == nobody {
		return "-"
	}
	return strconv.Itoa(holder)
}

func holderWords(holders []int) string {
	var words []string
	for _, holder := range holders {
		words = append(words, holderWord(holder))
	}
	return line(words...)
}

func envyWords(envies []api.Envy) string {
	if len(envies) == 0 {
		return "none"
	}
	var words []string
	for _, envy := range envies {
		words = append(words, strconv.Itoa(envy.Applicant), strconv.Itoa(envy.Stall))
	}
	return line(words...)
}
