package scale

import (
	"iter"
	"slices"

	"shambles/api"
)

// gap is the least and the greatest that one number less another one may be.
type gap [2]int

func gapOf(s api.Span) gap { return gap{s.Lo, s.Hi} }

func (g gap) span() api.Span { return api.Span{Lo: g[0], Hi: g[1]} }

func (g gap) plus(h gap) gap { return gap{g[0] + h[0], g[1] + h[1]} }

// turned is the gap of the same two numbers in the other order.
func (g gap) turned() gap { return gap{-g[1], -g[0]} }

func (g gap) meet(h gap) gap { return gap{max(g[0], h[0]), min(g[1], h[1])} }

// A table has the gap of each two of the numbers of a bench: of 0 itself, of what each mass is off, and of each error of a scale with its sign turned. With this sign a trial says something of the difference of two numbers, as all the rest does, and of differences all that follows comes of adding up gaps.
type table [][]gap

// naught is the place of 0 in a table.
const naught = 0

// massAt is the place of a mass in a table.
func massAt(mass int) int { return 1 + mass }

// errorAt is the place of the error of a scale on a day in a table.
func errorAt(b api.Bench, scale, day int) int {
	return 1 + len(b.Masses) + scale*(b.Days+1) + day
}

// claim says that the number at place a less the one at place b is within a gap.
type claim struct {
	a, b int
	gap  gap
}

// givens hands out what is given of each mass and each scale: one claim for each place of a table behind naught, in their order, about its number (a) and one at a place before it (b).
func givens(b api.Bench) iter.Seq[claim] {
	return func(yield func(claim) bool) {
		for i, m := range b.Masses {
			if !yield(claim{massAt(i), naught, gapOf(m.Off)}) {
				return
			}
		}
		for i, s := range b.Scales {
			if !yield(claim{errorAt(b, i, 0), naught, gapOf(s.First).turned()}) {
				return
			}
			for day := range b.Days {
				if !yield(claim{errorAt(b, i, day+1), errorAt(b, i, day), gapOf(s.Drift).turned()}) {
					return
				}
			}
		}
	}
}

// results hands out what each weighing says, then what each trial says.
func results(b api.Bench) iter.Seq[claim] {
	return func(yield func(claim) bool) {
		for _, w := range b.Weighings {
			if !yield(claim{massAt(w.A), massAt(w.B), gapOf(w.Diff)}) {
				return
			}
		}
		for _, t := range b.Trials {
			more := t.Shown - b.Masses[t.Mass].Nominal
			if !yield(claim{massAt(t.Mass), errorAt(b, t.Scale, t.Day), gap{more, more}}) {
				return
			}
		}
	}
}

// refutes says whether a claim cannot be so.
func (t table) refutes(c claim) bool {
	g := t[c.a][c.b].meet(c.gap)
	return g[0] > g[1]
}

// with returns the table with a claim that it does not refute. One pass is enough: a sum of gaps that has the claim in it twice says no more than one that has it once.
func (t table) with(c claim) table {
	g := t[c.a][c.b].meet(c.gap)
	next := make(table, len(t))
	for i, row := range t {
		next[i] = make([]gap, len(row))
		there, back := row[c.a].plus(g), row[c.b].plus(g.turned())
		for j, old := range row {
			next[i][j] = old.meet(there.plus(t[c.b][j])).meet(back.plus(t[c.a][j]))
		}
	}
	return next
}

// given returns what is known without any result. There always are such numbers: each one is bound to a single one before it.
func given(b api.Bench) table {
	t := table{{gap{}}}
	for c := range givens(b) {
		last := make([]gap, c.a+1)
		for i, row := range t {
			last[i] = c.gap.plus(t[c.b][i])
			t[i] = append(row, last[i].turned())
		}
		t = append(t, last)
	}
	return t
}

// known returns what is known with all results, and whether the bench may be.
func known(b api.Bench) (table, bool) {
	t := given(b)
	for c := range results(b) {
		if t.refutes(c) {
			return nil, false
		}
		t = t.with(c)
	}
	return t, true
}

// fewest returns the fewest results that contradict, the first ones of several; some have to.
func fewest(b api.Bench) []int {
	all := slices.Collect(results(b))
	var search func(t table, from, left int) []int
	search = func(t table, from, left int) []int {
		for i := from; i <= len(all)-left; i++ {
			if left > 1 {
				// Fewer results than now are looked for do not contradict: t does not refute this one.
				if rest := search(t.with(all[i]), i+1, left-1); rest != nil {
					return slices.Insert(rest, 0, i)
				}
			} else if t.refutes(all[i]) {
				return []int{i}
			}
		}
		return nil
	}
	alone := given(b)
	for many := 1; many <= len(all); many++ {
		if list := search(alone, 0, many); list != nil {
			return list
		}
	}
	return nil
}
