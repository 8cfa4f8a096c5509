package beadle

import (
	"iter"
	"strconv"
	"strings"

	"shambles/api"
	"shambles/rows"
)

// maxDigits is how many digits a number of a note has at most.
const maxDigits = 6

// notes hands out the notes of a diary.
func notes(diary string) iter.Seq[string] {
	return func(yield func(note string) bool) {
		for row := range strings.Lines(diary) {
			if !yield(strings.TrimSuffix(row, "\n")) {
				return
			}
		}
	}
}

// formOf returns the form of a note: its letters, but one N for each number.
func formOf(note string) string {
	var form strings.Builder
	inNumber := false
	for _, letter := range note {
		digit := '0' <= letter && letter <= '9'
		switch {
		case !digit:
			form.WriteRune(letter)
		case !inNumber:
			form.WriteRune('N')
		}
		inNumber = digit
	}
	return form.String()
}

// deed does what a note says, and returns the reply to it.
type deed func() string

// taker tells what is to be done for a note with some numbers, and the error of the note.
type taker func(d *day, numbers ...int) (deed, api.Errno)

// takers returns who takes notes, by their forms.
func takers() map[string]taker {
	return map[string]taker{
		"at N":             (*day).at,
		"let":              (*day).let,
		"swap":             (*day).swap,
		"holders":          (*day).holders,
		"envies":           (*day).envies,
		"ice N":            (*day).ice,
		"fresh N":          (*day).fresh,
		"serve N":          (*day).serve,
		"sold N N N N N N": (*day).sold,
		"found N N N":      (*day).found,
		"price N":          (*day).price,
		"due N":            (*day).due,
		"seal":             (*day).seal,
	}
}

// take takes a note, and returns the reply to it.
func (d *day) take(note string) string {
	asked, known := takers()[formOf(note)]
	// Where the note itself has the letter N it has no number, and the words are not all right.
	numbers, ok := rows.All(strings.Split(note, " ")[1:], maxDigits, rows.Natural)
	if !known || !ok {
		return reply(nil, api.ErrForm)
	}
	return reply(asked(d, numbers...))
}

// reply does what is to be done if there is no error, and returns the reply.
func reply(do deed, e api.Errno) string {
	if e != api.OK {
		return line("error", strconv.Itoa(int(e)))
	}
	return do()
}
