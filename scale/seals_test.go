package scale_test

import (
	"slices"
	"testing"

	"shambles/api"
	"shambles/scale"
)

// P1.4: the examples, bounds, and errors in their order.
func TestLasts(t *testing.T) {
	for _, c := range []struct {
		after, drift api.Span
		limit, want  int
		e            api.Errno
	}{
		{span(-2, 3), span(-1, 2), 10, 3, api.OK},
		{span(-2, 3), span(-1, 2), 2, -1, api.OK},
		{span(-2, 3), span(-1, 2), 3, 0, api.OK},
		{span(0, 0), span(0, 0), 0, 10, api.OK},
		{span(0, 0), span(-1, 0), 0, 0, api.OK},
		{span(0, 0), span(1, 1), 9, 9, api.OK},
		{span(0, 0), span(1, 1), 10, 10, api.OK},
		{span(-10, -10), span(2, 2), 9, -1, api.OK},
		{span(-10, -10), span(2, 2), 10, 10, api.OK},
		{span(-10000, 10000), span(-10000, 10000), 10000, 0, api.OK},
		{span(-10001, 0), span(1, 0), -1, 0, api.ErrRange},
		{span(0, 10001), span(1, 0), -1, 0, api.ErrRange},
		{span(1, 0), span(0, 10001), -1, 0, api.ErrOrder},
		{span(0, 1), span(1, 0), -1, 0, api.ErrOrder},
		{span(0, 1), span(-10001, 0), 0, 0, api.ErrRange},
		{span(0, 1), span(0, 10001), 0, 0, api.ErrRange},
		{span(0, 0), span(0, 0), -1, 0, api.ErrRange},
		{span(0, 0), span(0, 0), 10001, 0, api.ErrRange},
	} {
		if n, e := scale.Lasts(c.after, c.drift, c.limit); n != c.want || e != c.e {
			t.Error(c, n, e)
		}
	}
}

// stays returns for how many days, at most MaxTerm, an error stays within the limit on the way that is worst; -1 if it is not within.
func stays(err int, drift api.Span, limit, days int) int {
	if err < -limit || err > limit {
		return -1
	}
	least := days
	for d := drift.Lo; d <= drift.Hi && days > 0; d++ {
		least = min(least, 1+stays(err+d, drift, limit, days-1))
	}
	return least
}

// P1.12: whatever error and drift are, the scale stays so long, and perhaps no longer: all ways are gone.
func TestAllDrifts(t *testing.T) {
	for low := -2; low <= 2; low++ {
		for high := low; high <= 2; high++ {
			for drift := range 9 {
				d := span(drift/3-1, drift/3-1+drift%3)
				for limit := range 6 {
					want := api.MaxTerm
					for err := low; err <= high; err++ {
						want = min(want, stays(err, d, limit, api.MaxTerm))
					}
					if n, e := scale.Lasts(span(low, high), d, limit); n != want || e != api.OK {
						t.Fatal(low, high, d, limit, n, e, want)
					}
				}
			}
		}
	}
}

func tests(numbers ...int) []api.Test {
	var list []api.Test
	for i := 0; i < len(numbers); i += 2 {
		list = append(list, api.Test{Day: numbers[i], Scale: numbers[i+1]})
	}
	return list
}

// P1.5: the examples, bounds, and errors in their order.
func TestPlan(t *testing.T) {
	for name, c := range map[string]struct {
		s    api.Seals
		want []api.Test
		e    api.Errno
	}{
		"example":      {api.Seals{Left: []int{1, 0}, Every: []int{2, 3}, Most: 1, Days: 4}, tests(1, 1, 2, 0), api.OK},
		"less left":    {api.Seals{Left: []int{0, 0}, Every: []int{2, 3}, Most: 1, Days: 4}, tests(0, 0, 1, 1, 3, 0), api.OK},
		"none allowed": {api.Seals{Left: []int{1, 0}, Every: []int{2, 3}, Most: 0, Days: 4}, nil, api.ErrMissing},
		"none needed":  {api.Seals{Left: []int{4, 10}, Every: []int{0, 0}, Most: 0, Days: 4}, nil, api.OK},
		"left to the last but one": {
			api.Seals{Left: []int{9}, Every: []int{0}, Most: 1, Days: 10}, tests(10, 0), api.OK},
		"each day anew": {api.Seals{Left: []int{-1}, Every: []int{0}, Most: 1, Days: 3}, tests(0, 0, 1, 0, 2, 0, 3, 0), api.OK},
		"two at once":   {api.Seals{Left: []int{-1, -1}, Every: []int{10, 10}, Most: 2, Days: 10}, tests(0, 0, 0, 1), api.OK},
		"not at once":   {api.Seals{Left: []int{-1, -1}, Every: []int{10, 10}, Most: 1, Days: 10}, nil, api.ErrMissing},
		"the last first": {
			api.Seals{Left: []int{3, 3, 3, 3}, Every: []int{9, 9, 9, 9}, Most: 1, Days: 4},
			tests(1, 3, 2, 2, 3, 1, 4, 0), api.OK},
		"day 0 alone":      {api.Seals{Left: []int{0}, Every: []int{0}, Most: 0, Days: 0}, nil, api.OK},
		"too few":          {api.Seals{Days: -1}, nil, api.ErrShort},
		"too many":         {api.Seals{Left: make([]int, 5), Every: nil, Days: -1}, nil, api.ErrFull},
		"fewer of Every":   {api.Seals{Left: make([]int, 2), Every: make([]int, 1), Days: -1}, nil, api.ErrForm},
		"more of Every":    {api.Seals{Left: make([]int, 2), Every: make([]int, 3), Most: 5}, nil, api.ErrForm},
		"days below 0":     {api.Seals{Left: []int{0}, Every: []int{0}, Most: 1, Days: -1}, nil, api.ErrRange},
		"too many days":    {api.Seals{Left: []int{0}, Every: []int{0}, Most: 1, Days: 11}, nil, api.ErrRange},
		"most below 0":     {api.Seals{Left: []int{0}, Every: []int{0}, Most: -1, Days: 0}, nil, api.ErrRange},
		"most too many":    {api.Seals{Left: []int{0}, Every: []int{0}, Most: 5, Days: 0}, nil, api.ErrRange},
		"left below":       {api.Seals{Left: []int{0, -2}, Every: []int{0, 0}, Most: 1, Days: 0}, nil, api.ErrRange},
		"left above":       {api.Seals{Left: []int{0, 11}, Every: []int{0, 0}, Most: 1, Days: 0}, nil, api.ErrRange},
		"every below":      {api.Seals{Left: []int{0, 0}, Every: []int{0, -1}, Most: 1, Days: 0}, nil, api.ErrRange},
		"every above":      {api.Seals{Left: []int{0, 0}, Every: []int{0, 11}, Most: 1, Days: 0}, nil, api.ErrRange},
		"all at the bound": {api.Seals{Left: []int{10, 10}, Every: []int{10, 10}, Most: 4, Days: 10}, nil, api.OK},
	} {
		if l, e := scale.Plan(c.s); !slices.Equal(l, c.want) || e != c.e {
			t.Error(name, l, e)
		}
	}
}

// sealed says whether a scale is sealed on a day, just as the chapter has it.
func sealed(s api.Seals, plan []api.Test, scale, day int) bool {
	if day <= s.Left[scale] {
		return true
	}
	for _, x := range plan {
		if x.Scale == scale && x.Day <= day && day-x.Day <= s.Every[scale] {
			return true
		}
	}
	return false
}

// keeps says whether a plan has at most Most tests a day, and keeps all sealed.
func keeps(s api.Seals, plan []api.Test) bool {
	for day := range s.Days + 1 {
		many := 0
		for _, x := range plan {
			if x.Day == day {
				many++
			}
		}
		if many > s.Most {
			return false
		}
		for scale := range s.Left {
			if !sealed(s, plan, scale, day) {
				return false
			}
		}
	}
	return true
}

func later(a, b api.Test) int {
	if a.Day != b.Day {
		return a.Day - b.Day
	}
	return a.Scale - b.Scale
}

// wantPlan looks at all plans, those of the shortest lists first.
func wantPlan(s api.Seals, bySize [][][]api.Test) ([]api.Test, bool) {
	for _, plans := range bySize {
		var found []api.Test
		some := false
		for _, plan := range plans {
			if keeps(s, plan) && (!some || slices.CompareFunc(plan, found, later) > 0) {
				found, some = plan, true
			}
		}
		if some {
			return found, true
		}
	}
	return nil, false
}

// allPlans returns all plans for so many scales and days, by their number of tests.
func allPlans(scales, days int) [][][]api.Test {
	cells := scales * (days + 1)
	bySize := make([][][]api.Test, cells+1)
	for set := range 1 << cells {
		var plan []api.Test
		for _, i := range listed(set) {
			plan = append(plan, api.Test{Day: i / scales, Scale: i % scales})
		}
		bySize[len(plan)] = append(bySize[len(plan)], plan)
	}
	return bySize
}

// P1.13: the plan keeps all sealed, no plan with fewer tests does, nor a later one with as many.
func TestAllPlans(t *testing.T) {
	for _, size := range [][2]int{{1, 0}, {1, 4}, {2, 3}, {3, 1}, {3, 2}, {4, 1}} {
		scales, days := size[0], size[1]
		bySize := allPlans(scales, days)
		s := api.Seals{Left: make([]int, scales), Every: make([]int, scales), Days: days}
		var each func(scale int)
		each = func(scale int) {
			if scale == scales {
				for s.Most = range scales + 1 {
					want, ok := wantPlan(s, bySize)
					l, e := planOf(s)
					if ok != (e == api.OK) || !ok && e != api.ErrMissing || !slices.Equal(l, want) {
						t.Fatal(s, l, e, want)
					}
				}
				return
			}
			for s.Left[scale] = -1; s.Left[scale] <= days; s.Left[scale]++ {
				for s.Every[scale] = 0; s.Every[scale] <= days; s.Every[scale]++ {
					each(scale + 1)
				}
			}
		}
		each(0)
	}
}

func planOf(s api.Seals) ([]api.Test, api.Errno) { return scale.Plan(s) }

// P1.5, P1: the greatest seals are planned too.
func TestGreatSeals(t *testing.T) {
	for every := range api.MaxTerm + 1 {
		for most := range api.MaxSealed + 1 {
			s := api.Seals{Left: []int{-1, 0, 1, 2}, Every: slices.Repeat([]int{every}, 4), Most: most, Days: api.MaxTerm}
			l, e := scale.Plan(s)
			if e == api.OK && !keeps(s, l) || e != api.OK && e != api.ErrMissing || !slices.IsSortedFunc(l, later) {
				t.Error(s, l, e)
			}
		}
	}
}
