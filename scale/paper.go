package scale

import (
	"strings"

	"shambles/api"
	"shambles/rows"
)

// maxDigits is how many digits a number of a paper has at most.
const maxDigits = 7

// Write returns the paper of a bench.
func Write(b api.Bench) (string, api.Errno) {
	if e := Check(b); e != api.OK {
		return "", e
	}
	var paper strings.Builder
	row := func(word string, numbers ...int) { paper.WriteString(rows.Row(word, numbers...)) }
	for _, m := range b.Masses {
		row("mass", m.Nominal, m.Off.Lo, m.Off.Hi)
	}
	for _, w := range b.Weighings {
		row("weighing", w.A, w.B, w.Diff.Lo, w.Diff.Hi)
	}
	for _, s := range b.Scales {
		row("scale", s.First.Lo, s.First.Hi, s.Drift.Lo, s.Drift.Hi)
	}
	for _, t := range b.Trials {
		row("trial", t.Scale, t.Day, t.Mass, t.Shown)
	}
	row("end", b.Days)
	return paper.String(), api.OK
}

// Read returns the bench of a paper, or the number of the first row that is not as it has to be.
func Read(text string) (b api.Bench, row int, e api.Errno) {
	var r reader
	check := func() api.Errno { return Check(r.bench) }
	if row, e := rows.Read(text, api.MaxPaper, r.take, check); e != api.OK {
		return api.Bench{}, row, e
	}
	return r.bench, 0, api.OK
}

// Parts of a paper, in their order.
const (
	masses = iota
	weighings
	scales
	trials
	ended
)

// reader keeps what was read of a paper, and the part in which it is.
type reader struct {
	bench api.Bench
	part  int
}

// take keeps what the words of a row say, and says whether they are as they have to be.
func (r *reader) take(words []string) bool {
	part, many, keep := r.kind(words[0])
	numbers, ok := rows.All(words[1:], maxDigits, rows.Number)
	if !ok || keep == nil || len(numbers) != many || part < r.part {
		return false
	}
	r.part = part
	keep(numbers)
	return true
}

// kind returns to which part a row with this word belongs, how many numbers it has, and what keeps them: nil if there is no such row.
func (r *reader) kind(word string) (part, many int, keep func(n []int)) {
	switch word {
	case "mass":
		return masses, 3, r.mass
	case "weighing":
		return weighings, 4, r.weighing
	case "scale":
		return scales, 4, r.scale
	case "trial":
		return trials, 4, r.trial
	case "end":
		return ended, 1, r.end
	}
	return 0, 0, nil
}

func (r *reader) mass(n []int) {
	r.bench.Masses = append(r.bench.Masses, api.Mass{Nominal: n[0], Off: api.Span{Lo: n[1], Hi: n[2]}})
}

func (r *reader) weighing(n []int) {
	r.bench.Weighings = append(r.bench.Weighings, api.Weighing{A: n[0], B: n[1], Diff: api.Span{Lo: n[2], Hi: n[3]}})
}

func (r *reader) scale(n []int) {
	r.bench.Scales = append(r.bench.Scales, api.Scale{First: api.Span{Lo: n[0], Hi: n[1]}, Drift: api.Span{Lo: n[2], Hi: n[3]}})
}

func (r *reader) trial(n []int) {
	r.bench.Trials = append(r.bench.Trials, api.Trial{Scale: n[0], Day: n[1], Mass: n[2], Shown: n[3]})
}

func (r *reader) end(n []int) { r.bench.Days = n[0] }
