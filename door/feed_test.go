package door_test

import (
	"iter"
	"math/rand/v2"
	"slices"
	"testing"

	"shambles/api"
	"shambles/cold"
	"shambles/door"
)

// gifts are gifts of from, keeps and portions.
func gifts(numbers ...int) []api.Gift {
	var list []api.Gift
	for g := range slices.Chunk(numbers, 3) {
		list = append(list, api.Gift{From: g[0], Keeps: g[1], Portions: g[2]})
	}
	return list
}

// kitchen is the kitchen K of the chapter's examples.
func kitchen() api.Kitchen {
	return api.Kitchen{Meals: []int{30, 20, 40}, Gifts: gifts(0, 0, 25, 0, 2, 40, 1, 1, 30)}
}

// P9.4: the example of Feed, and its edges.
func TestFeed(t *testing.T) {
	for i, c := range []struct {
		k      api.Kitchen
		want   [][]int
		spoils int
	}{
		{kitchen(), [][]int{{25, 5, 0}, {0, 0, 20}, {0, 35, 0}}, 10},
		{api.Kitchen{}, nil, 0},
		{api.Kitchen{Meals: []int{5, 6}}, [][]int{nil, nil}, 0},
		{api.Kitchen{Meals: []int{0}, Gifts: gifts(0, 0, 7)}, [][]int{{0}}, 7},
		{api.Kitchen{Meals: []int{7}, Gifts: gifts(0, 0, 0)}, [][]int{{0}}, 0},
		{api.Kitchen{Meals: []int{7}, Gifts: gifts(0, 0, 7)}, [][]int{{7}}, 0},
		{api.Kitchen{Meals: []int{7}, Gifts: gifts(0, 0, 5, 0, 0, 5)}, [][]int{{5, 2}}, 3},
		// What keeps is not given as long as that makes more spoil, but as soon as it does not.
		{api.Kitchen{Meals: []int{10, 10}, Gifts: gifts(0, 1, 10, 0, 0, 10)}, [][]int{{0, 10}, {10, 0}}, 0},
		{api.Kitchen{Meals: []int{10, 10}, Gifts: gifts(0, 1, 10, 0, 0, 6)}, [][]int{{4, 6}, {6, 0}}, 0},
		{api.Kitchen{Meals: []int{10, 10}, Gifts: gifts(0, 1, 30, 0, 0, 6)}, [][]int{{10, 0}, {10, 0}}, 16},
		{api.Kitchen{Meals: []int{10, 10}, Gifts: gifts(0, 0, 6, 0, 1, 30)}, [][]int{{6, 4}, {0, 10}}, 16},
		{api.Kitchen{Meals: []int{10, 10}, Gifts: gifts(1, 1, 6, 0, 1, 30)}, [][]int{{0, 10}, {6, 4}}, 16},
		// The first gift waits for the meal after the next one, as the second one does not keep.
		{api.Kitchen{Meals: []int{4, 0, 4}, Gifts: gifts(0, 2, 4, 0, 1, 4)}, [][]int{{0, 4}, {0, 0}, {4, 0}}, 0},
		{api.Kitchen{Meals: []int{10000, 0, 9999}, Gifts: gifts(0, 2, 10000, 0, 1, 10000)}, [][]int{{1, 9999}, {0, 0}, {9999, 0}}, 1},
		// One gift makes room for the next one, and this for another one.
		{api.Kitchen{Meals: []int{1, 1, 1}, Gifts: gifts(0, 1, 1, 1, 2, 1, 0, 0, 1)}, [][]int{{0, 0, 1}, {1, 0, 0}, {0, 1, 0}}, 0},
		{api.Kitchen{Meals: slices.Repeat([]int{10000}, 5), Gifts: gifts(0, 4, 10000, 0, 3, 10000, 0, 2, 10000, 0, 1, 10000, 0, 0, 10000)}, [][]int{{0, 0, 0, 0, 10000}, {0, 0, 0, 10000, 0}, {0, 0, 10000, 0, 0}, {0, 10000, 0, 0, 0}, {10000, 0, 0, 0, 0}}, 0},
		{api.Kitchen{Meals: slices.Repeat([]int{10000}, 5), Gifts: slices.Repeat(gifts(0, 4, 10000), 5)}, [][]int{{10000, 0, 0, 0, 0}, {0, 10000, 0, 0, 0}, {0, 0, 10000, 0, 0}, {0, 0, 0, 10000, 0}, {0, 0, 0, 0, 10000}}, 0},
	} {
		s, spoils, e := door.Feed(c.k)
		if e != api.OK || spoils != c.spoils || !slices.EqualFunc(s, c.want, slices.Equal[[]int]) {
			t.Error(i, s, spoils, e)
		}
	}
}

// pickKitchen returns a kitchen with so many meals and gifts at most, each with so many portions at most.
func pickKitchen(r *rand.Rand, meals, gifts, portions int) api.Kitchen {
	var k api.Kitchen
	for range 1 + r.IntN(meals) {
		k.Meals = append(k.Meals, r.IntN(portions+1))
	}
	for range r.IntN(gifts + 1) {
		from := r.IntN(len(k.Meals))
		k.Gifts = append(k.Gifts, api.Gift{From: from, Keeps: from + r.IntN(len(k.Meals)-from), Portions: r.IntN(portions + 1)})
	}
	return k
}

// kitchens hands out so many kitchens.
func kitchens(many, meals, gifts, portions int) iter.Seq[api.Kitchen] {
	return func(yield func(api.Kitchen) bool) {
		r := rand.New(rand.NewPCG(9, uint64(many)))
		for range many {
			if !yield(pickKitchen(r, meals, gifts, portions)) {
				return
			}
		}
	}
}

// fed returns what Feed says. It holds that the serving keeps all rules, and that what is not eaten spoils.
func fed(t *testing.T, k api.Kitchen) ([][]int, int) {
	t.Helper()
	s, spoils, e := door.Feed(k)
	if e != api.OK || len(s) != len(k.Meals) {
		t.Fatal(k, s, spoils, e)
	}
	left := 0
	for gift, g := range k.Gifts {
		left += g.Portions
		of := 0
		for meal, portions := range s {
			n := portions[gift]
			if n < 0 || n > 0 && (meal < g.From || meal > g.Keeps) {
				t.Fatal(k, s, meal, gift)
			}
			of += n
		}
		if of > g.Portions {
			t.Fatal(k, s, gift)
		}
	}
	for meal, portions := range s {
		if len(portions) != len(k.Gifts) || total(portions) > k.Meals[meal] {
			t.Fatal(k, s, meal)
		}
		left -= total(portions)
	}
	if left != spoils {
		t.Fatal(k, s, spoils, left)
	}
	return s, spoils
}

// servings hands out all servings of a kitchen, as one list: meal by meal, gift by gift.
func servings(k api.Kitchen) iter.Seq[[]int] {
	return func(yield func([]int) bool) {
		meals, left := slices.Clone(k.Meals), []int{}
		for _, g := range k.Gifts {
			left = append(left, g.Portions)
		}
		var add func(s []int) bool
		add = func(s []int) bool {
			if len(s) == len(meals)*len(left) {
				return yield(s)
			}
			meal, gift := len(s)/len(left), len(s)%len(left)
			most := min(meals[meal], left[gift])
			if g := k.Gifts[gift]; meal < g.From || meal > g.Keeps {
				most = 0
			}
			for n := range most + 1 {
				meals[meal], left[gift] = meals[meal]-n, left[gift]-n
				more := add(append(s, n))
				meals[meal], left[gift] = meals[meal]+n, left[gift]+n
				if !more {
					return false
				}
			}
			return true
		}
		add(nil)
	}
}

// P9.4, P9.12: no serving spoils less than that of Feed, nor as little and comes before: all servings of small kitchens are looked at.
func TestAllServings(t *testing.T) {
	several, spoil := 0, 0
	hold := func(k api.Kitchen) {
		t.Helper()
		s, spoils := fed(t, k)
		var best []int
		as := 0
		for other := range servings(k) {
			eaten := total(other)
			switch {
			case best == nil || eaten > total(best):
				best, as = slices.Clone(other), 1
			case eaten == total(best):
				as++
				if slices.Compare(other, best) > 0 {
					best = slices.Clone(other)
				}
			}
		}
		if flat := slices.Concat(s...); !slices.Equal(flat, best) {
			t.Fatal(k, s, best)
		}
		if as > 1 {
			several++
		}
		if spoils > 0 {
			spoil++
		}
	}
	for k := range kitchens(3000, 3, 3, 3) {
		hold(k)
	}
	for k := range kitchens(600, 5, 4, 2) {
		hold(k)
	}
	for k := range kitchens(600, 2, 5, 2) {
		hold(k)
	}
	if several < 800 || spoil < 800 {
		t.Error("few kitchens with several servings, or where some portions spoil:", several, spoil)
	}
}

// bounded returns how many portions can be eaten at most if those of a set of meals are eaten there, or nowhere: at these meals no more than they take, at all others no more than there is for them.
func bounded(k api.Kitchen, set int) int {
	most := inSet(k.Meals, set)
	for _, g := range k.Gifts {
		if elsewhere(g, set) {
			most += g.Portions
		}
	}
	return most
}

// elsewhere says whether a gift may be eaten at a meal that is not in a set.
func elsewhere(g api.Gift, set int) bool {
	for meal := g.From; meal <= g.Keeps; meal++ {
		if set>>meal&1 == 0 {
			return true
		}
	}
	return false
}

// eaten returns how many portions are eaten at most: there always is a set of meals that bounds them just so.
func eaten(k api.Kitchen) int {
	most := 1 << 40
	for set := range 1 << len(k.Meals) {
		most = min(most, bounded(k, set))
	}
	return most
}

// P9.4, P9.12: the servings of great kitchens, found in another way.
func TestGreatKitchens(t *testing.T) {
	later := 0
	for k := range kitchens(3000, 5, 5, 10000) {
		s, spoils := fed(t, k)
		all := 0
		for _, g := range k.Gifts {
			all += g.Portions
		}
		if all-spoils != eaten(k) {
			t.Fatal(k, s, spoils, eaten(k))
		}
		left := api.Kitchen{Meals: slices.Clone(k.Meals), Gifts: slices.Clone(k.Gifts)}
		for meal, portions := range s {
			for gift, n := range portions {
				g := k.Gifts[gift]
				most := min(left.Meals[meal], left.Gifts[gift].Portions)
				if meal < g.From || meal > g.Keeps {
					most = 0
				}
				// A portion here is one less of a meal, and one less of a gift: where a set of meals counts both, it may be one too many.
				for set := range 1 << len(k.Meals) {
					if set>>meal&1 == 1 && elsewhere(g, set) {
						most = min(most, bounded(left, set)-eaten(left))
					}
				}
				if n != most {
					t.Fatal(k, s, meal, gift, n, most)
				}
				if n < min(left.Meals[meal], left.Gifts[gift].Portions) && n > 0 {
					later++
				}
				left.Meals[meal] -= n
				left.Gifts[gift].Portions -= n
			}
		}
	}
	if later < 80 {
		t.Error("few gifts of which some is kept for a later meal:", later)
	}
}

// P9.13: with gifts that keep longer, and meals that take more, no more spoils.
func TestKept(t *testing.T) {
	r := rand.New(rand.NewPCG(9, 13))
	less := [2]int{}
	hold := func(k api.Kitchen) {
		t.Helper()
		_, spoils := fed(t, k)
		longer := api.Kitchen{Meals: k.Meals, Gifts: slices.Clone(k.Gifts)}
		for i := range longer.Gifts {
			g := &longer.Gifts[i]
			g.Keeps += r.IntN(len(k.Meals) - g.Keeps)
		}
		wider := api.Kitchen{Meals: slices.Clone(k.Meals), Gifts: k.Gifts}
		for i := range wider.Meals {
			wider.Meals[i] += r.IntN(min(10001-wider.Meals[i], 2+wider.Meals[i]))
		}
		for i, other := range []api.Kitchen{longer, wider} {
			_, n := fed(t, other)
			if n > spoils {
				t.Fatal(k, other, spoils, n)
			}
			if n < spoils {
				less[i]++
			}
		}
	}
	for k := range kitchens(1500, 4, 4, 3) {
		hold(k)
	}
	for k := range kitchens(1000, 5, 5, 10000) {
		hold(k)
	}
	if less[0] < 150 || less[1] < 500 {
		t.Error("few kitchens where it matters:", less)
	}
}

// pickCellar returns a cellar with a box, and a lot that is in the box for some hours.
func pickCellar(r *rand.Rand) (api.Cellar, api.Lot) {
	melt := pickSpan(r, 3)
	c := api.Cellar{
		Hall:  span(5, 5+r.IntN(2)),
		Boxes: []api.Box{{Room: 9, Ice: pickSpan(r, 9), Melt: melt, Cold: span(0, 1), Warm: span(3, 4)}},
		Rates: []api.Rate{{Above: 1, Loss: 1}, {Above: 4, Loss: 1 + r.IntN(2)}, {Above: 6, Loss: 3}},
	}
	born := r.IntN(8)
	l := api.Lot{Born: born, Keeps: r.IntN(12)}
	if to := born + r.IntN(6); to > born {
		l.Stays = []api.Stay{{From: born, To: to}}
	}
	return c, l
}

// loss returns what a lot loses in an hour at a warmth.
func loss(c api.Cellar, warmth int) int {
	lost := 0
	for _, r := range c.Rates {
		if r.Above <= warmth {
			lost = r.Loss
		}
	}
	return lost
}

// losesTruly returns what a lot has truly lost at an hour if ice, warmth and what melts truly are some numbers of what they may be.
func losesTruly(r *rand.Rand, c api.Cellar, l api.Lot, hour int) int {
	pick := func(s api.Span) int { return s.Lo + r.IntN(s.Hi-s.Lo+1) }
	b := c.Boxes[0]
	ice, lost := pick(b.Ice), 0
	for now := range hour {
		warmth := pick(b.Warm)
		if ice > 0 {
			warmth = pick(b.Cold)
		}
		if len(l.Stays) == 0 || now < l.Stays[0].From || now >= l.Stays[0].To {
			warmth = pick(c.Hall)
		}
		if now >= l.Born {
			lost += loss(c, warmth)
		}
		ice = max(0, ice-pick(b.Melt))
	}
	return lost
}

// fresh returns the meals at which a lot surely is fresh, the first and the last one of them, and whether there are any.
func fresh(t *testing.T, c api.Cellar, l api.Lot, hours []int) (first, last int, ok bool) {
	t.Helper()
	for meal, hour := range hours {
		if hour < l.Born {
			continue
		}
		verdict, e := cold.Fresh(c, l, hour)
		if e != api.OK {
			t.Fatal(c, l, hour, e)
		}
		if verdict == api.Sure {
			if !ok {
				first = meal
			}
			last, ok = meal, true
		}
	}
	return first, last, ok
}

// T4: what is eaten of a lot at a meal surely is fresh then, if it is given for the meals at which it surely is; nothing spoils of a lot that keeps for a meal that is not full.
func TestPoor(t *testing.T) {
	r := rand.New(rand.NewPCG(4, 9))
	hours := []int{1, 4, 7, 10, 13}
	served, spoilt := 0, 0
	for range 600 {
		k := api.Kitchen{Meals: []int{r.IntN(9), r.IntN(9), r.IntN(9), r.IntN(9), r.IntN(9)}}
		var cellars []api.Cellar
		var lots []api.Lot
		for range 8 {
			c, l := pickCellar(r)
			first, last, ok := fresh(t, c, l, hours)
			if !ok || len(k.Gifts) == 5 {
				continue
			}
			if n, e := cold.Last(c, l); e != api.OK || n < hours[last] || last < 4 && n >= hours[last+1] {
				t.Fatal(c, l, first, last, n, e)
			}
			cellars, lots = append(cellars, c), append(lots, l)
			k.Gifts = append(k.Gifts, api.Gift{From: first, Keeps: last, Portions: r.IntN(15)})
		}
		s, _ := fed(t, k)
		for gift, g := range k.Gifts {
			left := g.Portions
			for meal, portions := range s {
				left -= portions[gift]
				if portions[gift] == 0 {
					continue
				}
				served++
				for range 5 {
					if lost := losesTruly(r, cellars[gift], lots[gift], hours[meal]); hours[meal] < lots[gift].Born || lost > lots[gift].Keeps {
						t.Fatal(cellars[gift], lots[gift], meal, lost)
					}
				}
			}
			for meal := g.From; meal <= g.Keeps && left > 0; meal++ {
				if total(s[meal]) < k.Meals[meal] {
					t.Fatal(k, s, gift, left, meal)
				}
				spoilt++
			}
		}
	}
	if served < 1000 || spoilt < 500 {
		t.Error("few portions that are served, or spoil:", served, spoilt)
	}
}
