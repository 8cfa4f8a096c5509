package vault

import (
	"iter"

	"shambles/api"
	"shambles/bounds"
)

// places hands out the places of a hall, those in front first, from the left to the right.
func places(h api.Hall) iter.Seq[api.Cell] {
	return func(yield func(api.Cell) bool) {
		for y := range h.Deep {
			for x := range h.Wide {
				if !yield(api.Cell{X: x, Y: y}) {
					return
				}
			}
		}
	}
}

// columns returns how many bays are side by side.
func columns(h api.Hall) int { return (h.Wide + h.Bay.X - 1) / h.Bay.X }

// bays returns how many bays there are.
func bays(h api.Hall) int { return columns(h) * ((h.Deep + h.Bay.Y - 1) / h.Bay.Y) }

// spot is what there is at a place.
type spot struct {
	water, shut bool
	bay         int
}

// floor is the spots of a hall, row by row.
type floor [api.MaxDeep][api.MaxWide]spot

// floorOf returns the floor of a valid hall.
func floorOf(h api.Hall) floor {
	var f floor
	for c := range places(h) {
		f[c.Y][c.X].bay = c.Y/h.Bay.Y*columns(h) + c.X/h.Bay.X
	}
	for _, c := range h.Water {
		f[c.Y][c.X].water = true
	}
	for _, c := range h.Shut {
		f[c.Y][c.X].shut = true
	}
	return f
}

// rule returns an error if a put behind others is not as it has to be.
type rule func(before []api.Put, p api.Put) api.Errno

// site is a valid hall at work.
type site struct {
	hall  api.Hall
	floor floor
	rules []rule
}

func siteOf(h api.Hall) *site {
	s := &site{hall: h, floor: floorOf(h)}
	// Each rule may rely on those before it: the floor has no spots but for places.
	s.rules = []rule{s.inside, s.open, s.known, s.free, s.watered, s.apart}
	return s
}

func (s *site) spot(p api.Put) spot { return s.floor[p.At.Y][p.At.X] }

func (s *site) kind(p api.Put) api.Kind { return s.hall.Kinds[p.Kind] }

// firstBroken returns the error of a put behind others.
func (s *site) firstBroken(before []api.Put, p api.Put) api.Errno {
	for _, check := range s.rules {
		if e := check(before, p); e != api.OK {
			return e
		}
	}
	return api.OK
}

func (s *site) inside(_ []api.Put, p api.Put) api.Errno { return checkPlace(s.hall, p.At) }

func (s *site) open(_ []api.Put, p api.Put) api.Errno {
	if s.spot(p).shut {
		return api.ErrState
	}
	return api.OK
}

func (s *site) known(_ []api.Put, p api.Put) api.Errno { return checkKind(s.hall, p.Kind) }

func (s *site) free(before []api.Put, p api.Put) api.Errno {
	for _, q := range before {
		if q.At == p.At {
			return api.ErrExists
		}
	}
	return api.OK
}

func (s *site) watered(_ []api.Put, p api.Put) api.Errno {
	if s.kind(p).Water && !s.spot(p).water {
		return api.ErrShort
	}
	return api.OK
}

func (s *site) apart(before []api.Put, p api.Put) api.Errno {
	for _, q := range before {
		if distance(p.At, q.At) < max(s.kind(p).Away[q.Kind], s.kind(q).Away[p.Kind]) {
			return api.ErrClash
		}
	}
	return api.OK
}

func distance(a, b api.Cell) int {
	return max(a.X-b.X, b.X-a.X) + max(a.Y-b.Y, b.Y-a.Y)
}

// count returns how many puts are of a kind.
func count(l []api.Put, kind int) int {
	many := 0
	for _, p := range l {
		if p.Kind == kind {
			many++
		}
	}
	return many
}

// loads returns what each bay may carry.
func (s *site) loads(l []api.Put) []api.Span {
	carried := make([]api.Span, len(s.hall.Bears))
	for _, p := range l {
		bay := s.spot(p).bay
		carried[bay] = bounds.Sum(carried[bay], s.kind(p).Load)
	}
	return carried
}

// bears returns the verdict whether the vaults bear a layout.
func (s *site) bears(l []api.Put) int {
	verdict := api.Sure
	for bay, load := range s.loads(l) {
		if load.Lo > s.hall.Bears[bay] {
			return api.Never
		}
		if load.Hi > s.hall.Bears[bay] {
			verdict = api.Open
		}
	}
	return verdict
}

// takes says whether a layout that is allowed still is with one more put.
func (s *site) takes(l []api.Put, p api.Put) bool {
	return s.firstBroken(l, p) == api.OK && count(l, p.Kind) < s.kind(p).Most && s.carries(l, p)
}

// carries says whether the bay of one more put surely bears it; no other bay carries more than before.
func (s *site) carries(l []api.Put, p api.Put) bool {
	bay := s.spot(p).bay
	load := s.kind(p).Load
	for _, q := range l {
		if s.spot(q).bay == bay {
			load = bounds.Sum(load, s.kind(q).Load)
		}
	}
	return load.Hi <= s.hall.Bears[bay]
}
