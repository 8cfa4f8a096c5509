// Package rows reads and writes the texts that layers have byte for byte: rows of words, each ended by a line feed, the last one with the word "end".
package rows

import (
	"strconv"
	"strings"

	"shambles/api"
)

// Row returns the row of a word and numbers.
func Row(word string, numbers ...int) string {
	var row strings.Builder
	row.WriteString(word)
	for _, n := range numbers {
		row.WriteString(" " + strconv.Itoa(n))
	}
	row.WriteString("\n")
	return row.String()
}

// Read hands the words of each row of a text to keep, which says whether they are as they have to be. It returns ErrLong for a text of more than most bytes; ErrForm and the number of the first row (from 1 on) that is not as it has to be; otherwise what check says of all that was kept.
func Read(text string, most int, keep func(words []string) bool, check func() api.Errno) (row int, e api.Errno) {
	if len(text) > most {
		return 0, api.ErrLong
	}
	if row := firstWrong(text, keep); row > 0 {
		return row, api.ErrForm
	}
	return 0, check()
}

// firstWrong returns the number of the first row that is not as it has to be, or 0 if there is none.
func firstWrong(text string, keep func(words []string) bool) int {
	ended := false
	// The last piece is what stands behind the last line feed: nothing, if all is well.
	for i, piece := range strings.SplitAfter(text, "\n") {
		if ended && piece == "" {
			break
		}
		row, whole := strings.CutSuffix(piece, "\n")
		words := strings.Split(row, " ")
		if ended || !whole || !keep(words) {
			return i + 1
		}
		ended = words[0] == "end"
	}
	return 0
}

// Number returns the number that a word is, and whether it is one of at most so many digits. Only one word is right for each number: the one that would be written.
func Number(word string, digits int) (int, bool) {
	if len(strings.TrimPrefix(word, "-")) > digits {
		return 0, false
	}
	n, err := strconv.Atoi(word)
	if err != nil || strconv.Itoa(n) != word {
		return 0, false
	}
	return n, true
}

// Natural returns the number that a word is, and whether it is one of at most so many digits without a sign.
func Natural(word string, digits int) (int, bool) {
	n, ok := Number(word, digits)
	if !ok || n < 0 {
		return 0, false
	}
	return n, true
}

// All returns the numbers that words are, and whether read (Number or Natural) takes all of them.
func All(words []string, digits int, read func(word string, digits int) (int, bool)) ([]int, bool) {
	var numbers []int
	for _, word := range words {
		n, ok := read(word, digits)
		if !ok {
			return nil, false
		}
		numbers = append(numbers, n)
	}
	return numbers, true
}
