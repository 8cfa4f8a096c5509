package vault_test

import (
	"cmp"
	"iter"
	"math/rand/v2"
	"slices"
	"testing"

	"shambles/api"
	"shambles/vault"
)

func span(low, high int) api.Span { return api.Span{Lo: low, Hi: high} }

func put(kind, x, y int) api.Put { return api.Put{At: api.Cell{X: x, Y: y}, Kind: kind} }

// hall is the hall H of the chapter's examples.
func hall() api.Hall {
	return api.Hall{
		Wide: 3, Deep: 2,
		Water: []api.Cell{{X: 0, Y: 0}, {X: 2, Y: 1}},
		Shut:  []api.Cell{{X: 1, Y: 1}},
		Bay:   api.Cell{X: 2, Y: 1},
		Bears: []int{500, 300, 500, 200},
		Kinds: []api.Kind{
			{Load: span(200, 300), Water: true, Away: []int{0, 2}, Rent: 90, Most: 2},
			{Load: span(100, 150), Away: []int{1, 0}, Rent: 50, Most: 3},
		},
	}
}

// stalls is the layout L of the chapter's examples, with more behind it.
func stalls(more ...api.Put) []api.Put {
	return append([]api.Put{put(0, 0, 0), put(1, 2, 0)}, more...)
}

// changed is the hall H with a change.
func changed(change func(h *api.Hall)) api.Hall {
	h := hall()
	change(&h)
	return h
}

// full is a hall with as much as there may be of everything.
func full() api.Hall {
	h := api.Hall{Wide: 6, Deep: 4, Bay: api.Cell{X: 1, Y: 1}, Bears: slices.Repeat([]int{10000000}, 24)}
	for i := range 24 {
		c := api.Cell{X: i % 6, Y: i / 6}
		h.Water, h.Shut = append(h.Water, c), append(h.Shut, c)
	}
	for range 6 {
		h.Kinds = append(h.Kinds, api.Kind{
			Load: span(1000000, 1000000), Water: true, Away: slices.Repeat([]int{9}, 6), Rent: 1000000, Most: 24})
	}
	return h
}

// copied shares no memory with h.
func copied(h api.Hall) api.Hall {
	h.Water, h.Shut, h.Bears, h.Kinds = slices.Clone(h.Water), slices.Clone(h.Shut), slices.Clone(h.Bears), slices.Clone(h.Kinds)
	for i := range h.Kinds {
		h.Kinds[i].Away = slices.Clone(h.Kinds[i].Away)
	}
	return h
}

// same says whether halls are equal; a nil slice is equal to an empty one.
func same(a, b api.Hall) bool {
	return a.Wide == b.Wide && a.Deep == b.Deep && a.Bay == b.Bay &&
		slices.Equal(a.Water, b.Water) && slices.Equal(a.Shut, b.Shut) && slices.Equal(a.Bears, b.Bears) &&
		slices.EqualFunc(a.Kinds, b.Kinds, func(x, y api.Kind) bool {
			return x.Load == y.Load && x.Water == y.Water && x.Rent == y.Rent && x.Most == y.Most && slices.Equal(x.Away, y.Away)
		})
}

// pickHall returns a hall of at most so many columns, rows and kinds, of which at most so many places are not shut, with numbers that often are equal.
func pickHall(r *rand.Rand, wide, deep, kinds, open int) api.Hall {
	h := api.Hall{Wide: 1 + r.IntN(wide), Deep: 1 + r.IntN(deep)}
	h.Bay = api.Cell{X: 1 + r.IntN(h.Wide), Y: 1 + r.IntN(h.Deep)}
	left := 0
	for _, i := range r.Perm(h.Wide * h.Deep) {
		c := api.Cell{X: i % h.Wide, Y: i / h.Wide}
		if r.IntN(2) == 0 {
			h.Water = append(h.Water, c)
		}
		if left == open || r.IntN(8) == 0 {
			h.Shut = append(h.Shut, c)
		} else {
			left++
		}
	}
	for range len(corners(h)) {
		h.Bears = append(h.Bears, r.IntN(10))
	}
	many := 1 + r.IntN(kinds)
	for range many {
		low := r.IntN(4)
		k := api.Kind{Load: span(low, low+r.IntN(3)), Water: r.IntN(3) == 0, Rent: r.IntN(4), Most: r.IntN(5)}
		for range many {
			k.Away = append(k.Away, max(0, r.IntN(5)-1))
		}
		h.Kinds = append(h.Kinds, k)
	}
	return h
}

// smallHalls hands out halls of which all layouts, and all truths of each, can be looked at.
func smallHalls(many int) iter.Seq[api.Hall] {
	return func(yield func(api.Hall) bool) {
		r := rand.New(rand.NewPCG(3, 18))
		for range many {
			if !yield(pickHall(r, 4, 3, 3, 5)) {
				return
			}
		}
	}
}

// halls hands out H, and small halls.
func halls(many int) iter.Seq[api.Hall] {
	return func(yield func(api.Hall) bool) {
		if !yield(hall()) {
			return
		}
		smallHalls(many)(yield)
	}
}

// cells returns all places, in order.
func cells(h api.Hall) []api.Cell {
	var list []api.Cell
	for i := range h.Wide * h.Deep {
		list = append(list, api.Cell{X: i % h.Wide, Y: i / h.Wide})
	}
	return list
}

// corners returns the first place of each bay.
func corners(h api.Hall) []api.Cell {
	var list []api.Cell
	for y := 0; y < h.Deep; y += h.Bay.Y {
		for x := 0; x < h.Wide; x += h.Bay.X {
			list = append(list, api.Cell{X: x, Y: y})
		}
	}
	return list
}

// layouts hands out all layouts of a hall in order, those too that are not valid.
func layouts(h api.Hall) iter.Seq[[]api.Put] {
	return func(yield func([]api.Put) bool) {
		var l []api.Put
		var add func(places []api.Cell) bool
		add = func(places []api.Cell) bool {
			if len(places) == 0 {
				return yield(slices.Clone(l))
			}
			if !add(places[1:]) {
				return false
			}
			for kind := range h.Kinds {
				if slices.Contains(h.Shut, places[0]) {
					break
				}
				l = append(l, api.Put{At: places[0], Kind: kind})
				if !add(places[1:]) {
					return false
				}
				l = l[:len(l)-1]
			}
			return true
		}
		add(cells(h))
	}
}

// truths hands out all true loads that the puts of a layout may have.
func truths(h api.Hall, l []api.Put) iter.Seq[[]int] {
	return func(yield func([]int) bool) {
		var truth []int
		var add func() bool
		add = func() bool {
			if len(truth) == len(l) {
				return yield(truth)
			}
			load := h.Kinds[l[len(truth)].Kind].Load
			for n := load.Lo; n <= load.Hi; n++ {
				truth = append(truth, n)
				if !add() {
					return false
				}
				truth = truth[:len(truth)-1]
			}
			return true
		}
		add()
	}
}

// wantLayout is the error of a layout just as the chapter has it.
func wantLayout(h api.Hall, l []api.Put) api.Errno {
	if len(l) > 24 {
		return api.ErrFull
	}
	for i, p := range l {
		if !slices.Contains(cells(h), p.At) {
			return api.ErrMissing
		}
		if slices.Contains(h.Shut, p.At) {
			return api.ErrState
		}
		if p.Kind < 0 || p.Kind >= len(h.Kinds) {
			return api.ErrKind
		}
		if slices.ContainsFunc(l[:i], func(q api.Put) bool { return q.At == p.At }) {
			return api.ErrExists
		}
		if h.Kinds[p.Kind].Water && !slices.Contains(h.Water, p.At) {
			return api.ErrShort
		}
		for _, q := range l[:i] {
			apart := steps(p.At.X, q.At.X) + steps(p.At.Y, q.At.Y)
			if apart < h.Kinds[p.Kind].Away[q.Kind] || apart < h.Kinds[q.Kind].Away[p.Kind] {
				return api.ErrClash
			}
		}
	}
	for kind, k := range h.Kinds {
		if len(ofKind(l, kind)) > k.Most {
			return api.ErrOver
		}
	}
	return api.OK
}

// steps is how far numbers are from each other.
func steps(a, b int) int {
	if a < b {
		return b - a
	}
	return a - b
}

func ofKind(l []api.Put, kind int) []api.Put {
	return slices.DeleteFunc(slices.Clone(l), func(p api.Put) bool { return p.Kind != kind })
}

// carried returns what the bays carry in a truth.
func carried(h api.Hall, l []api.Put, truth []int) []int {
	loads := make([]int, len(h.Bears))
	for bay, c := range corners(h) {
		for i, p := range l {
			if c.X <= p.At.X && p.At.X < c.X+h.Bay.X && c.Y <= p.At.Y && p.At.Y < c.Y+h.Bay.Y {
				loads[bay] += truth[i]
			}
		}
	}
	return loads
}

// borne says whether the vaults bear a layout in a truth.
func borne(h api.Hall, l []api.Put, truth []int) bool {
	for bay, load := range carried(h, l, truth) {
		if load > h.Bears[bay] {
			return false
		}
	}
	return true
}

// allowed says whether a layout is allowed: in all truths the vaults bear it if they do with the greatest loads.
func allowed(h api.Hall, l []api.Put) bool {
	if wantLayout(h, l) != api.OK {
		return false
	}
	var heaviest []int
	for _, p := range l {
		heaviest = append(heaviest, h.Kinds[p.Kind].Load.Hi)
	}
	return borne(h, l, heaviest)
}

// rent is what a layout earns.
func rent(h api.Hall, l []api.Put) int {
	total := 0
	for _, p := range l {
		total += h.Kinds[p.Kind].Rent
	}
	return total
}

// byPlace compares puts: those in front first, and from the left to the right; at the same place the lesser kind first.
func byPlace(p, q api.Put) int {
	return cmp.Or(cmp.Compare(p.At.Y, q.At.Y), cmp.Compare(p.At.X, q.At.X), cmp.Compare(p.Kind, q.Kind))
}

// best returns the layout of Best, which has no error.
func best(t *testing.T, h api.Hall) []api.Put {
	t.Helper()
	l, e := vault.Best(h)
	if e != api.OK {
		t.Fatal(h, e)
	}
	return l
}
