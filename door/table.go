package door

import (
	"sort"

	"shambles/api"
	"shambles/flows"
)

// table is a valid kitchen at work: what each meal still takes, and what is left of each gift.
type table struct {
	gifts []api.Gift
	takes [api.MaxMeals]int
	left  [api.MaxGifts]int
}

func tableOf(k api.Kitchen) table {
	t := table{gifts: k.Gifts}
	copy(t.takes[:], k.Meals)
	for gift, g := range k.Gifts {
		t.left[gift] = g.Portions
	}
	return t
}

// serve returns the table when so many portions of a gift are eaten at a meal.
func (t table) serve(meal, gift, portions int) table {
	t.takes[meal] -= portions
	t.left[gift] -= portions
	return t
}

// The kinds of places where portions are, one after the other.
const (
	inStock = iota
	inGift
	atMeal
	eaten
)

// dish is a place where portions are: its kind, and the number of the gift or the meal.
type dish struct{ kind, number int }

// eats returns how many portions can be eaten at most.
func (t table) eats() int {
	var flow flows.Net[dish]
	var takes []int
	join := func(from, to dish, portions int) {
		flow.Join(from, to)
		takes = append(takes, portions)
	}
	for gift, g := range t.gifts {
		join(dish{kind: inStock}, dish{inGift, gift}, t.left[gift])
		for meal := g.From; meal <= g.Keeps; meal++ {
			join(dish{inGift, gift}, dish{atMeal, meal}, t.left[gift])
		}
	}
	for meal, portions := range t.takes {
		join(dish{atMeal, meal}, dish{kind: eaten}, portions)
	}
	return flow.Most(dish{kind: inStock}, dish{kind: eaten}, takes)
}

// most returns how many portions of a gift can be eaten at a meal at most, if no more are to spoil for that.
func (t table) most(meal, gift int) int {
	if g := t.gifts[gift]; meal < g.From || meal > g.Keeps {
		return 0
	}
	eats := t.eats()
	// If portions are too many here, so are more.
	return sort.Search(min(t.takes[meal], t.left[gift]), func(fewer int) bool {
		portions := fewer + 1
		return portions+t.serve(meal, gift, portions).eats() < eats
	})
}
