package scale

import (
	"cmp"
	"iter"
	"math/bits"

	"shambles/api"
	"shambles/bounds"
)

// Plan returns the latest one of the plans that keep all sealed with the fewest tests.
func Plan(s api.Seals) ([]api.Test, api.Errno) {
	if e := checkSeals(s); e != api.OK {
		return nil, e
	}
	p := planner{s, map[morning]choice{}}
	m := p.first()
	if !p.choose(m).found {
		return nil, api.ErrMissing
	}
	var plan []api.Test
	for m.day <= s.Days {
		set := p.choose(m).set
		for scale := range s.Left {
			if p.tests(set, scale) {
				plan = append(plan, api.Test{Day: m.day, Scale: scale})
			}
		}
		m, _ = p.next(m, set)
	}
	return plan, api.OK
}

// checkSeals returns the first error of seals.
func checkSeals(s api.Seals) api.Errno {
	if e := bounds.Counted(len(s.Left), 1, api.MaxSealed); e != api.OK {
		return e
	}
	if len(s.Every) != len(s.Left) {
		return api.ErrForm
	}
	e := cmp.Or(bounds.Within(s.Days, 0, api.MaxTerm), bounds.Within(s.Most, 0, api.MaxSealed))
	for _, day := range s.Left {
		e = cmp.Or(e, bounds.Within(day, -1, api.MaxTerm))
	}
	for _, days := range s.Every {
		e = cmp.Or(e, bounds.Within(days, 0, api.MaxTerm))
	}
	return e
}

// morning is a day before its tests, and until when each scale is sealed. Of the tests before it no more matters.
type morning struct {
	day   int
	until [api.MaxSealed]int
}

// choice is a set of scales to test on a day, and how many tests there are from that day on.
type choice struct {
	set, total int
	found      bool
}

// planner finds the best choice for each morning, and keeps it as long as it plans.
type planner struct {
	seals api.Seals
	known map[morning]choice
}

// first returns the morning of the day 0.
func (p planner) first() morning {
	var m morning
	for scale, day := range p.seals.Left {
		m.until[scale] = min(day, p.seals.Days)
	}
	return m
}

// tests says whether a scale is in a set. The last scale has the lowest bit: thus a lesser set makes a later plan, if there are as many tests.
func (p planner) tests(set, scale int) bool {
	return set>>(len(p.seals.Left)-1-scale)&1 == 1
}

// next returns the morning after a set was tested, and whether all scales are sealed on the day of the tests. Days behind the last one are all the same, so that fewer mornings differ.
func (p planner) next(m morning, set int) (morning, bool) {
	for scale, every := range p.seals.Every {
		if p.tests(set, scale) {
			m.until[scale] = min(max(m.until[scale], m.day+every), p.seals.Days)
		}
		if m.until[scale] < m.day {
			return morning{}, false
		}
	}
	m.day++
	return m, true
}

// choose returns the choice that leads to the fewest tests, the latest one of several.
func (p planner) choose(m morning) choice {
	if m.day > p.seals.Days {
		return choice{found: true}
	}
	c, ok := p.known[m]
	if !ok {
		c = best(p.choices(m), func(a, b choice) bool { return a.total < b.total })
		p.known[m] = c
	}
	return c
}

// choices hands out all choices for a morning that keep all sealed to the end, the later one first if there are as many tests.
func (p planner) choices(m morning) iter.Seq[choice] {
	return func(yield func(choice) bool) {
		for set := range 1 << len(p.seals.Left) {
			many := bits.OnesCount(uint(set))
			next, sealed := p.next(m, set)
			if many > p.seals.Most || !sealed {
				continue
			}
			rest := p.choose(next)
			if rest.found && !yield(choice{set, many + rest.total, true}) {
				return
			}
		}
	}
}

// best returns the first item than which no other one is better, the zero value if there are none.
func best[T any](items iter.Seq[T], better func(a, b T) bool) T {
	var found T
	some := false
	for item := range items {
		if !some || better(item, found) {
			found, some = item, true
		}
	}
	return found
}
