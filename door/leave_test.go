package door_test

import (
	"math/rand/v2"
	"slices"
	"testing"

	"shambles/api"
	"shambles/door"
)

// P9.2: the examples of Leave, and its edges.
func TestLeave(t *testing.T) {
	h, chain := house(), row(3, 2, 9, 1)
	pair := api.House{Holds: []int{9}, Doors: []api.Door{{A: 0, B: -1, Flow: 3}, {A: -1, B: 0, Flow: 4}}}
	for i, c := range []struct {
		h              api.House
		people, closed []int
		want           int
	}{
		{h, []int{40, 0}, nil, 2}, {h, []int{50, 0}, nil, 3}, {h, []int{0, 50}, nil, 4}, {h, []int{0, 50}, []int{2}, 6}, {h, []int{0, 1}, []int{1, 2}, never},
		// The hall 1 helps from the second tick on.
		{h, []int{45, 0}, nil, 2}, {h, []int{46, 0}, nil, 3}, {h, []int{70, 0}, nil, 3}, {h, []int{71, 0}, nil, 4},
		{h, []int{45, 0}, []int{1}, 3}, {h, []int{55, 0}, []int{0}, 12}, {h, []int{56, 0}, []int{0}, never},
		// A door lets no more people through in one direction, but it lets as many through in the other one.
		{api.House{Holds: []int{9, 9}, Doors: []api.Door{{A: 0, B: 1, Flow: 2}, {A: 1, B: -1, Flow: 2}}}, []int{2, 2}, nil, 2},
		{api.House{Holds: []int{9, 9}, Doors: []api.Door{{A: 0, B: 1, Flow: 2}, {A: 1, B: -1, Flow: 2}}}, []int{2, 3}, nil, 3},
		// A hall may hold more people than it holds meanwhile, and at first.
		{api.House{Holds: []int{0, 0}, Doors: []api.Door{{A: 0, B: 1, Flow: 50}, {A: 1, B: -1, Flow: 10}}}, []int{50, 0}, nil, 6},
		// Nobody is there; the doors do not matter.
		{h, []int{0, 0}, []int{0, 1, 2}, 0}, {api.House{Holds: []int{5}}, []int{0}, nil, 0}, {api.House{Holds: []int{5}}, []int{1}, nil, never},
		{row(0), []int{1}, nil, never}, {row(1), []int{12}, nil, 12}, {row(1), []int{13}, nil, never},
		// A way from hall to hall takes a tick for each door.
		{chain, []int{0, 0, 0, 1}, nil, 4}, {chain, []int{0, 0, 0, 3}, nil, 6}, {chain, []int{0, 0, 0, 9}, nil, 12}, {chain, []int{0, 0, 0, 10}, nil, never},
		{chain, []int{3, 2, 2, 1}, nil, 4}, {chain, []int{1, 1, 1, 1}, []int{3}, never}, {chain, []int{1, 1, 1, 0}, []int{3}, 3}, {chain, []int{1, 1, 0, 0}, []int{2, 3}, 2},
		// Doors side by side add up, whatever their ends are called.
		{pair, []int{7}, nil, 1}, {pair, []int{8}, nil, 2}, {pair, []int{8}, []int{1}, 3}, {pair, []int{8}, []int{0}, 2}, {pair, []int{8}, []int{0, 1}, never},
		{full(), []int{10000, 10000, 10000, 10000}, nil, 1}, {row(10000, 10000, 10000, 10000), []int{10000, 10000, 10000, 10000}, nil, 4},
		{row(3334, 3334, 3334, 3334), []int{10000, 10000, 10000, 10000}, nil, 12}, {row(3333, 3333, 3333, 3333), []int{10000, 10000, 10000, 10000}, nil, never},
	} {
		if n := left(t, c.h, c.people, c.closed); n != c.want {
			t.Error(i, n, c.want)
		}
	}
}

// P9.3: the examples of Admit, and its edges.
func TestAdmit(t *testing.T) {
	h := house()
	// Three halls around one that has the only door to the outside.
	around := func(holds ...int) api.House {
		return api.House{Holds: holds, Doors: []api.Door{{A: 0, B: -1, Flow: 10}, {A: 0, B: 1, Flow: 99}, {A: 0, B: 2, Flow: 99}, {A: 3, B: 0, Flow: 99}}}
	}
	holding := func(holds ...int) api.House { return changed(func(h *api.House) { h.Holds = holds }) }
	for i, c := range []struct {
		h      api.House
		ticks  int
		closed []int
		want   int
	}{
		{h, 2, nil, 20}, {h, 3, nil, 35}, {h, 4, nil, 95}, {h, 0, nil, 0}, {h, 1, nil, 5}, {h, 5, nil, 125}, {h, 6, nil, 150}, {h, 12, nil, 150},
		{h, 4, []int{1}, 20}, {h, 9, []int{1}, 45}, {h, 10, []int{1}, 150}, {h, 12, []int{0}, 55}, {h, 12, []int{0, 2}, 0}, {h, 12, []int{1, 2}, 0},
		// A hall that holds nobody, or no more than can leave from there, does not matter.
		{holding(100, 0), 2, nil, 45}, {holding(100, 10), 2, nil, 45}, {holding(45, 10), 2, nil, 50}, {holding(0, 100), 2, nil, 20}, {holding(50, 20), 2, nil, 45}, {holding(45, 0), 2, nil, 45},
		{holding(3, 4), 1, nil, 7}, {holding(3, 6), 1, nil, 5}, {holding(20, 5), 1, nil, 25}, {holding(21, 5), 1, nil, 20},
		{holding(0, 0), 0, nil, 0}, {holding(0, 0), 12, nil, 0}, {holding(0, 1), 0, nil, 0},
		// Of all halls together one more may be inside than can leave.
		{around(12, 3, 3, 3), 2, nil, 20}, {around(11, 3, 3, 3), 2, nil, 20}, {around(12, 3, 3, 5), 2, nil, 10}, {around(12, 3, 3, 4), 2, nil, 20}, {around(12, 3, 3, 3), 1, nil, 0}, {around(12, 3, 3, 3), 3, nil, 21},
		{full(), 0, nil, 0}, {full(), 1, nil, 40000}, {full(), 1, []int{3}, 40000}, {full(), 12, []int{3, 4}, 0},
		{row(1, 1, 1, 1), 3, nil, 0}, {row(1, 1, 1, 1), 4, nil, 1}, {row(1, 1, 1, 1), 12, nil, 9}, {row(9999), 1, nil, 9999}, {row(10000), 1, nil, 10000},
	} {
		if n := admitted(t, c.h, c.ticks, c.closed); n != c.want {
			t.Error(i, n, c.want)
		}
	}
}

// stand is how many people are in each hall.
type stand [4]int

// passage leads from a hall to another one, or outside.
type passage struct{ from, to, flow int }

// open returns the passages of a house in both directions, without those from the outside.
func open(h api.House, closed []int) []passage {
	var list []passage
	for i, d := range h.Doors {
		for _, p := range []passage{{d.A, d.B, d.Flow}, {d.B, d.A, d.Flow}} {
			if p.from >= 0 && !slices.Contains(closed, i) {
				list = append(list, p)
			}
		}
	}
	return list
}

// tick hands out all ways in which people may stand after one tick: those who have not moved yet, and all.
func tick(still, all stand, passages []passage, found map[stand]bool) {
	if len(passages) == 0 {
		found[all] = true
		return
	}
	p := passages[0]
	for n := range min(p.flow, still[p.from]) + 1 {
		s, a := still, all
		s[p.from] -= n
		a[p.from] -= n
		if p.to >= 0 {
			a[p.to] += n
		}
		tick(s, a, passages[1:], found)
	}
}

// outTick returns the first tick after which nobody is inside, never if there is none: all ways are gone through. What may follow on a stand is kept in next.
func outTick(passages []passage, people []int, next map[stand]map[stand]bool) int {
	var first stand
	copy(first[:], people)
	now := map[stand]bool{first: true}
	for ticks := range never {
		if now[stand{}] {
			return ticks
		}
		then := map[stand]bool{}
		for s := range now {
			if next[s] == nil {
				next[s] = map[stand]bool{}
				tick(s, s, passages, next[s])
			}
			for after := range next[s] {
				then[after] = true
			}
		}
		now = then
	}
	return never
}

// pickClosed returns some of the doors of a house.
func pickClosed(r *rand.Rand, h api.House) []int {
	var closed []int
	for i := range h.Doors {
		if r.IntN(5) == 0 {
			closed = append(closed, i)
		}
	}
	return closed
}

// P9.2, P9.8: people can leave in the ticks that Leave says, and not in fewer: all ways of few people are gone through.
func TestAllWays(t *testing.T) {
	r := rand.New(rand.NewPCG(9, 8))
	ticks := map[int]int{}
	for h := range houses(1000, small) {
		closed := pickClosed(r, h)
		passages := open(h, closed)
		next := map[stand]map[stand]bool{}
		for range 5 {
			people := make([]int, len(h.Holds))
			for range r.IntN(6) {
				people[r.IntN(len(people))]++
			}
			want := outTick(passages, people, next)
			if n := left(t, h, people, closed); n != want {
				t.Fatal(h, people, closed, n, want)
			}
			ticks[want]++
		}
	}
	if ticks[1] < 200 || ticks[2] < 100 || ticks[3] < 50 || ticks[4] < 20 || ticks[never] < 500 {
		t.Error("few people that need so many ticks:", ticks)
	}
}

// narrowest returns for each set of halls how many people can leave from there at most in so many ticks. Think of a set of halls for each tick, the first one with all halls where people are, and each one with all halls of the one before: whoever is outside at last took a passage, in some tick, from the set of this tick to where no hall of the next set is. So no more can leave than these passages take together, and as many can as they take if they are as narrow as can be.
func narrowest(h api.House, ticks int, closed []int) []int {
	passages := open(h, closed)
	sets := 1 << len(h.Holds)
	least := make([]int, sets)
	for range ticks {
		before := slices.Repeat([]int{1 << 40}, sets)
		for set := range sets {
			for after := range sets {
				if after&set == set {
					before[set] = min(before[set], least[after]+flowFrom(passages, set, after))
				}
			}
		}
		least = before
	}
	// The first set may have more halls than those where people are.
	for set := range least {
		for more := range least {
			if more&set == set {
				least[set] = min(least[set], least[more])
			}
		}
	}
	return least
}

// flowFrom returns how many people can go in one tick from a set of halls to where no hall of another set is.
func flowFrom(passages []passage, set, other int) int {
	flow := 0
	for _, p := range passages {
		if set>>p.from&1 == 1 && (p.to < 0 || other>>p.to&1 == 0) {
			flow += p.flow
		}
	}
	return flow
}

// inSet returns how many of some numbers are in a set.
func inSet(numbers []int, set int) int {
	sum := 0
	for i, n := range numbers {
		if set>>i&1 == 1 {
			sum += n
		}
	}
	return sum
}

// canLeave says whether people can leave, in a way of its own: of no halls there are more than can leave from there.
func canLeave(people []int, least []int) bool {
	for set, most := range least {
		if inSet(people, set) > most {
			return false
		}
	}
	return true
}

// P9.2, P9.3: the numbers of great houses, found in another way.
func TestGreatLeave(t *testing.T) {
	r := rand.New(rand.NewPCG(9, 80))
	tight, ticksOf := 0, map[int]int{}
	for h := range houses(1000, great) {
		closed := pickClosed(r, h)
		people := make([]int, len(h.Holds))
		for i := range people {
			people[i] = r.IntN([]int{10, 1000, 10001}[r.IntN(3)])
		}
		want := never
		for ticks := range never {
			least := narrowest(h, ticks, closed)
			if want == never && canLeave(people, least) {
				want = ticks
			}
			most := total(h.Holds)
			for set, flow := range least {
				if inSet(h.Holds, set) > flow {
					most = min(most, flow)
				}
			}
			if n := admitted(t, h, ticks, closed); n != most {
				t.Fatal(h, ticks, closed, n, most)
			}
			if 0 < most && most < total(h.Holds) {
				tight++
			}
		}
		if n := left(t, h, people, closed); n != want {
			t.Fatal(h, people, closed, n, want)
		}
		ticksOf[want]++
	}
	if tight < 1000 || len(ticksOf) < 13 || ticksOf[never] < 100 || ticksOf[3] < 20 {
		t.Error("few houses with more people than can leave, or few numbers of ticks:", tight, ticksOf)
	}
}

// P9.9: fewer people never need longer; with more open doors and greater flows nobody needs longer, and no fewer are admitted.
func TestFewer(t *testing.T) {
	r := rand.New(rand.NewPCG(9, 9))
	sooner, more := [3]int{}, [2]int{}
	hold := func(h api.House, people []int) {
		t.Helper()
		closed, ticks := pickClosed(r, h), r.IntN(never)
		need, most := left(t, h, people, closed), admitted(t, h, ticks, closed)
		fewer := slices.Clone(people)
		for i := range fewer {
			fewer[i] -= r.IntN(2) * r.IntN(fewer[i]+1)
		}
		opened := slices.DeleteFunc(slices.Clone(closed), func(int) bool { return r.IntN(2) == 0 })
		wide := copied(h)
		for i := range wide.Doors {
			wide.Doors[i].Flow += r.IntN(2 + h.Doors[i].Flow)
		}
		for i, n := range []int{left(t, h, fewer, closed), left(t, h, people, opened), left(t, wide, people, closed)} {
			if n > need {
				t.Fatal(h, people, closed, i, fewer, opened, wide, n, need)
			}
			if n < need {
				sooner[i]++
			}
		}
		for i, n := range []int{admitted(t, h, ticks, opened), admitted(t, wide, ticks, closed)} {
			if n < most {
				t.Fatal(h, ticks, closed, i, opened, wide, n, most)
			}
			if n > most {
				more[i]++
			}
		}
	}
	for h := range houses(2500, small) {
		hold(h, slices.Repeat([]int{3}, len(h.Holds)))
	}
	for h := range houses(700, great) {
		hold(h, h.Holds)
	}
	if slices.Min(sooner[:]) < 80 || slices.Min(more[:]) < 80 {
		t.Error("few houses where it matters:", sooner, more)
	}
}

// P9.3, P9.10: as many people as Admit says can leave in time, however they are spread; of one more there is a way to be spread in which they cannot: all ways of few people are gone through.
func TestAllSpreads(t *testing.T) {
	r := rand.New(rand.NewPCG(9, 10))
	tight := 0
	for h := range houses(4000, small) {
		closed, ticks := pickClosed(r, h), r.IntN(6)
		most := admitted(t, h, ticks, closed)
		late := func(people int) bool {
			for spread := range spreads(h.Holds, people) {
				if left(t, h, spread, closed) > ticks {
					return true
				}
			}
			return false
		}
		for people := range most + 1 {
			if late(people) {
				t.Fatal(h, ticks, closed, most, people)
			}
		}
		if most < total(h.Holds) {
			if !late(most + 1) {
				t.Fatal(h, ticks, closed, most)
			}
			if most > 0 {
				tight++
			}
		}
	}
	if tight < 50 {
		t.Error("few houses with more people than can leave:", tight)
	}
}

// pickSpread returns a way in which so many people may be spread over halls that hold so many.
func pickSpread(r *rand.Rand, holds []int, people int) []int {
	spread := make([]int, len(holds))
	for _, i := range r.Perm(len(holds)) {
		spread[i] = min(people, holds[i])
		if r.IntN(3) == 0 {
			spread[i] = r.IntN(spread[i] + 1)
		}
		people -= spread[i]
	}
	for i := range spread {
		more := min(people, holds[i]-spread[i])
		spread[i] += more
		people -= more
	}
	return spread
}

// P9.10: as many people as Admit says can leave in time in great houses, too.
func TestGreatSpreads(t *testing.T) {
	r := rand.New(rand.NewPCG(9, 100))
	late := 0
	for h := range houses(800, great) {
		closed, ticks := pickClosed(r, h), r.IntN(never)
		most := admitted(t, h, ticks, closed)
		for range 5 {
			if spread := pickSpread(r, h.Holds, most); left(t, h, spread, closed) > ticks {
				t.Fatal(h, ticks, closed, most, spread)
			}
		}
		// Quite often the halls that are full are just those from which not all of one more can leave.
		for range 5 {
			if spread := pickSpread(r, h.Holds, min(most+1, total(h.Holds))); left(t, h, spread, closed) > ticks {
				late++
				break
			}
		}
	}
	if late < 200 {
		t.Error("few houses from which not all of one more can leave:", late)
	}
}

// P9.3, P9.9: with more ticks no fewer are admitted; without doors to the outside nobody is.
func TestMoreTicks(t *testing.T) {
	for h := range houses(500, great) {
		before := 0
		for ticks := range never {
			most := admitted(t, h, ticks, nil)
			if most < before || ticks == 0 && most > 0 {
				t.Fatal(h, ticks, before, most)
			}
			before = most
		}
		h.Doors = slices.DeleteFunc(copied(h).Doors, func(d api.Door) bool { return d.A < 0 || d.B < 0 })
		h.Counts = nil
		if most := admitted(t, h, 12, nil); most != 0 {
			t.Fatal(h, most)
		}
	}
}

// P9.3: Admit does not ask what was counted, not even whether the house may be.
func TestAdmitUncounted(t *testing.T) {
	clash := changed(func(h *api.House) { h.Counts[2].Out = span(50, 50) })
	if _, e := door.Inside(clash); e != api.ErrClash {
		t.Error(e)
	}
	if n := admitted(t, clash, 3, nil); n != 35 {
		t.Error(n)
	}
	if n := left(t, clash, []int{40, 0}, nil); n != 2 {
		t.Error(n)
	}
}
