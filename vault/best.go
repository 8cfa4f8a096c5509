package vault

import (
	"slices"

	"shambles/api"
)

// worth is what puts earn, and how many there are.
type worth struct{ rent, puts int }

func (w worth) plus(v worth) worth { return worth{w.rent + v.rent, w.puts + v.puts} }

// beats says whether w is better than v: it earns more, or as much with fewer puts.
func (w worth) beats(v worth) bool {
	return w.rent > v.rent || w.rent == v.rent && w.puts < v.puts
}

// openPlaces returns the places that are not shut, in order.
func (s *site) openPlaces() []api.Cell {
	var open []api.Cell
	for c := range places(s.hall) {
		if !s.floor[c.Y][c.X].shut {
			open = append(open, c)
		}
	}
	return open
}

// best returns the allowed layout of greatest worth, in order; of several the first one in order of comparison.
func (s *site) best(open []api.Cell) []api.Put {
	hope := s.hope(open)
	var top worth
	var chosen []api.Put
	var search func(l []api.Put, now worth, next int)
	// Of two layouts with as many puts the first one in order of comparison is met first: at each place the lesser kinds are tried first, and to leave it empty comes last.
	search = func(l []api.Put, now worth, next int) {
		if now.beats(top) {
			top, chosen = now, slices.Clone(l)
		}
		// Behind the last place there is no hope: each branch ends there at the latest.
		if !now.plus(hope[next]).beats(top) {
			return
		}
		for kind, k := range s.hall.Kinds {
			if p := (api.Put{At: open[next], Kind: kind}); s.takes(l, p) {
				search(append(l, p), now.plus(worth{k.Rent, 1}), next+1)
			}
		}
		search(l, now, next+1)
	}
	search(nil, worth{}, 0)
	return chosen
}

// hope returns for each open place, and for none, a worth that no puts from there on beat.
func (s *site) hope(open []api.Cell) []worth {
	hope := make([]worth, len(open)+1)
	for i, c := range slices.Backward(open) {
		var top worth
		for kind, k := range s.hall.Kinds {
			one := worth{k.Rent, 1}
			if one.beats(top) && s.takes(nil, api.Put{At: c, Kind: kind}) {
				top = one
			}
		}
		hope[i] = hope[i+1].plus(top)
	}
	return hope
}
