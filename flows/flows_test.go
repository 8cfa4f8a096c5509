package flows_test

import (
	"math/rand/v2"
	"slices"
	"testing"

	"shambles/flows"
)

// edge is an edge of a net, and how much it takes.
type edge struct {
	from, to string
	takes    int
}

// netOf returns the net of edges, and how much they take.
func netOf(edges ...edge) (*flows.Net[string], []int) {
	var net flows.Net[string]
	var takes []int
	for _, e := range edges {
		net.Join(e.from, e.to)
		takes = append(takes, e.takes)
	}
	return &net, takes
}

func TestMost(t *testing.T) {
	for i, c := range []struct {
		edges []edge
		want  int
	}{
		{nil, 0},
		{[]edge{{"a", "z", 0}}, 0},
		{[]edge{{"a", "z", 5}}, 5},
		{[]edge{{"z", "a", 5}}, 0},
		{[]edge{{"a", "b", 5}}, 0},
		{[]edge{{"b", "z", 5}}, 0},
		{[]edge{{"a", "a", 5}, {"z", "z", 5}}, 0},
		{[]edge{{"a", "z", 5}, {"a", "z", 6}}, 11},
		{[]edge{{"a", "b", 5}, {"b", "z", 6}}, 5},
		{[]edge{{"a", "b", 7}, {"b", "z", 6}}, 6},
		{[]edge{{"a", "b", 7}, {"z", "b", 6}}, 0},
		{[]edge{{"a", "b", 3}, {"b", "c", 9}, {"c", "b", 9}, {"c", "z", 2}}, 2},
		// What went from b to c first has to go another way.
		{[]edge{{"a", "b", 1}, {"b", "c", 1}, {"c", "z", 1}, {"a", "c", 1}, {"b", "z", 1}}, 2},
		{[]edge{{"a", "b", 10}, {"b", "c", 10}, {"c", "z", 10}, {"a", "c", 7}, {"b", "z", 8}}, 17},
		// A narrow edge between wide ones does not make it slow.
		{[]edge{{"a", "b", 1 << 40}, {"b", "c", 1}, {"c", "z", 1 << 40}, {"a", "c", 1 << 40}, {"b", "z", 1 << 40}}, 1 << 41},
	} {
		net, takes := netOf(c.edges...)
		if most := net.Most("a", "z", takes); most != c.want {
			t.Error(i, most, c.want)
		}
	}
}

// A net is the same behind Most, and Most neither changes nor keeps what edges take; it may be told of more edges than there are.
func TestAgain(t *testing.T) {
	net, takes := netOf(edge{"a", "b", 7}, edge{"b", "z", 6}, edge{"a", "z", 1})
	takes = append(takes, 100)
	for range 2 {
		if most := net.Most("a", "z", takes); most != 7 || !slices.Equal(takes, []int{7, 6, 1, 100}) {
			t.Error(most, takes)
		}
		if most := net.Most("b", "z", takes); most != 6 {
			t.Error(most)
		}
		if most := net.Most("a", "z", []int{2, 6, 0}); most != 2 {
			t.Error(most)
		}
	}
	net.Join("b", "z")
	if most := net.Most("a", "z", takes); most != 8 {
		t.Error(most)
	}
}

// narrowest returns how much edges take, at least, that lead from some places with the first one to all others with the last one.
func narrowest(places int, edges [][2]int, takes []int) int {
	least := 1 << 62
	for set := range 1 << places {
		if set&1 == 0 || set>>(places-1)&1 == 1 {
			continue
		}
		sum := 0
		for i, e := range edges {
			if set>>e[0]&1 == 1 && set>>e[1]&1 == 0 {
				sum += takes[i]
			}
		}
		least = min(least, sum)
	}
	return least
}

// As much can go as the narrowest cut takes, of all cuts.
func TestCuts(t *testing.T) {
	r := rand.New(rand.NewPCG(9, 0))
	some := 0
	for range 3000 {
		places := 2 + r.IntN(6)
		var net flows.Net[int]
		var edges [][2]int
		var takes []int
		wide := []int{2, 10, 1000000}[r.IntN(3)]
		for range r.IntN(4 * places) {
			e := [2]int{r.IntN(places), r.IntN(places)}
			net.Join(e[0], e[1])
			edges, takes = append(edges, e), append(takes, r.IntN(wide+1))
		}
		want := narrowest(places, edges, takes)
		if most := net.Most(0, places-1, takes); most != want {
			t.Fatal(places, edges, takes, most, want)
		}
		if want > 0 {
			some++
		}
	}
	if some < 1000 {
		t.Error("few nets on which something can go:", some)
	}
}
