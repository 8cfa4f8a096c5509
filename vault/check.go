package vault

import (
	"cmp"

	"shambles/api"
	"shambles/bounds"
)

// Check returns the first error of a hall.
func Check(h api.Hall) api.Errno {
	return cmp.Or(
		bounds.Within(h.Wide, 1, api.MaxWide),
		bounds.Within(h.Deep, 1, api.MaxDeep),
		checkCells(h, h.Water),
		checkCells(h, h.Shut),
		checkBays(h),
		checkKinds(h.Kinds),
	)
}

func checkCells(h api.Hall, cells []api.Cell) api.Errno {
	if e := bounds.Counted(len(cells), 0, api.MaxPlaces); e != api.OK {
		return e
	}
	met := map[api.Cell]bool{}
	for _, c := range cells {
		if e := checkPlace(h, c); e != api.OK {
			return e
		}
		if met[c] {
			return api.ErrExists
		}
		met[c] = true
	}
	return api.OK
}

func checkPlace(h api.Hall, c api.Cell) api.Errno {
	return cmp.Or(bounds.Named(c.X, h.Wide), bounds.Named(c.Y, h.Deep))
}

func checkBays(h api.Hall) api.Errno {
	// Bays are counted only once their size is known to be right.
	if e := cmp.Or(bounds.Within(h.Bay.X, 1, h.Wide), bounds.Within(h.Bay.Y, 1, h.Deep)); e != api.OK {
		return e
	}
	if len(h.Bears) != bays(h) {
		return api.ErrForm
	}
	for _, bears := range h.Bears {
		if e := bounds.Within(bears, 0, 10*api.MaxLoad); e != api.OK {
			return e
		}
	}
	return api.OK
}

func checkKinds(kinds []api.Kind) api.Errno {
	if e := bounds.Counted(len(kinds), 1, api.MaxKinds); e != api.OK {
		return e
	}
	for _, k := range kinds {
		e := cmp.Or(
			bounds.Span(k.Load, 0, api.MaxLoad),
			checkAway(k.Away, len(kinds)),
			bounds.Within(k.Rent, 0, api.MaxRent),
			bounds.Within(k.Most, 0, api.MaxPlaces),
		)
		if e != api.OK {
			return e
		}
	}
	return api.OK
}

func checkAway(away []int, kinds int) api.Errno {
	if len(away) != kinds {
		return api.ErrForm
	}
	for _, far := range away {
		if e := bounds.Within(far, 0, api.MaxAway); e != api.OK {
			return e
		}
	}
	return api.OK
}

// checkKind returns ErrKind unless a number is that of a kind.
func checkKind(h api.Hall, kind int) api.Errno {
	if kind < 0 || kind >= len(h.Kinds) {
		return api.ErrKind
	}
	return api.OK
}

// CheckLayout returns the first error of a hall, then that of a layout.
func CheckLayout(h api.Hall, l []api.Put) api.Errno {
	if e := cmp.Or(Check(h), bounds.Counted(len(l), 0, api.MaxPlaces)); e != api.OK {
		return e
	}
	s := siteOf(h)
	for i, p := range l {
		if e := s.firstBroken(l[:i], p); e != api.OK {
			return e
		}
	}
	for kind, k := range h.Kinds {
		if count(l, kind) > k.Most {
			return api.ErrOver
		}
	}
	return api.OK
}
