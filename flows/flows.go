// Package flows has what layers share of flows: how much can go from one place to another one at most, along edges that each take so much.
package flows

// arc leads to a place. Those with even numbers go along the edges, each with the next number goes back against its edge: there is room on it for what goes along, as that may be sent on another way.
type arc struct{ number, to int }

// Net is edges between places. They have numbers from 0 on, as they come.
type Net[P comparable] struct {
	numbers map[P]int
	// The arcs that leave each place, by its number.
	arcs  [][]arc
	edges int
}

// number returns the number of a place.
func (n *Net[P]) number(place P) int {
	number, ok := n.numbers[place]
	if !ok {
		if n.numbers == nil {
			n.numbers = map[P]int{}
		}
		number = len(n.numbers)
		n.numbers[place] = number
		n.arcs = append(n.arcs, nil)
	}
	return number
}

// Join adds an edge from one place to another one.
func (n *Net[P]) Join(from, to P) {
	a, b := n.number(from), n.number(to)
	n.arcs[a] = append(n.arcs[a], arc{2 * n.edges, b})
	n.arcs[b] = append(n.arcs[b], arc{2*n.edges + 1, a})
	n.edges++
}

// Most returns how much can go from one place to another one at most. A list has, for each edge by its number, how much it takes.
func (n *Net[P]) Most(from, to P, takes []int) int {
	source, target := n.number(from), n.number(to)
	left := make([]int, 2*n.edges)
	widest := 0
	for edge := range n.edges {
		left[2*edge] = takes[edge]
		widest = max(widest, takes[edge])
	}
	met := make([]bool, len(n.arcs))
	var send func(at, much, least int) int
	// So much, or less, is sent to the target on one way, on arcs that each take at least the least.
	send = func(at, much, least int) int {
		if at == target {
			return much
		}
		met[at] = true
		for _, a := range n.arcs[at] {
			if met[a.to] || left[a.number] < least {
				continue
			}
			if sent := send(a.to, min(much, left[a.number]), least); sent > 0 {
				left[a.number] -= sent
				left[a.number^1] += sent
				return sent
			}
		}
		return 0
	}
	most := 0
	// The widest ways are taken first: few of them are enough then, however much they take.
	for least := widest; least > 0; {
		clear(met)
		sent := send(source, widest, least)
		most += sent
		if sent == 0 {
			least /= 2
		}
	}
	return most
}
