package trace

import (
	"cmp"
	"slices"

	"shambles/api"
	"shambles/bounds"
)

// Check returns the first error of a net.
func Check(n api.Net) api.Errno {
	_, e := Holds(n)
	return e
}

// Holds returns how many grams each batch has at the end.
func Holds(n api.Net) ([]int, api.Errno) {
	if e := cmp.Or(checkBatches(n.Batches), bounds.Counted(len(n.Moves), 0, api.MaxMoves)); e != api.OK {
		return nil, e
	}
	holds := slices.Clone(n.Batches)
	for _, m := range n.Moves {
		if e := checkMove(holds, m); e != api.OK {
			return nil, e
		}
		holds[m.From] -= m.Grams
		holds[m.To] += m.Grams
	}
	return holds, api.OK
}

func checkBatches(batches []int) api.Errno {
	if e := bounds.Counted(len(batches), 1, api.MaxBatches); e != api.OK {
		return e
	}
	for _, grams := range batches {
		if e := bounds.Within(grams, 0, api.MaxAmount); e != api.OK {
			return e
		}
	}
	return api.OK
}

// checkMove returns the error of a move when batches have so much.
func checkMove(holds []int, m api.Move) api.Errno {
	if e := cmp.Or(checkBatch(m.From, len(holds)), checkBatch(m.To, len(holds))); e != api.OK {
		return e
	}
	return cmp.Or(
		bounds.Unless(m.From != m.To, api.ErrForm),
		bounds.Within(m.Grams, 1, api.MaxBatches*api.MaxAmount),
		bounds.Unless(m.Grams <= holds[m.From], api.ErrOver),
	)
}

func checkBatch(batch, batches int) api.Errno { return bounds.Named(batch, batches) }

// checkOrigins returns the first error of a net, then that of origins.
func checkOrigins(n api.Net, origins []int) api.Errno {
	return cmp.Or(Check(n), bounds.Listed(origins, len(n.Batches)))
}
