package stall

import (
	"cmp"
	"slices"

	"shambles/api"
	"shambles/bounds"
)

// nobody stands where there is no applicant.
const nobody = -1

// Check returns the first error of a letting.
func Check(l api.Letting) api.Errno {
	if e := checkStalls(l); e != api.OK {
		return e
	}
	return checkApplicants(l)
}

// CheckHolders returns the first error of a letting, then that of its holders.
func CheckHolders(l api.Letting, holders []int) api.Errno {
	if e := Check(l); e != api.OK {
		return e
	}
	if len(holders) != len(l.Stalls) {
		return api.ErrForm
	}
	for stall, holder := range holders {
		if e := checkHolder(l, holders[:stall], holder); e != api.OK {
			return e
		}
	}
	return api.OK
}

// checkHolder returns the error of the holder of the stall behind those that have the holders before.
func checkHolder(l api.Letting, before []int, holder int) api.Errno {
	if holder == nobody {
		return api.OK
	}
	if e := bounds.Named(holder, len(l.Applicants)); e != api.OK {
		return e
	}
	if slices.Contains(before, holder) {
		return api.ErrExists
	}
	if _, ok := bidFor(l, holder, len(before)); !ok {
		return api.ErrClash
	}
	return api.OK
}

func checkStalls(l api.Letting) api.Errno {
	if e := bounds.Counted(len(l.Stalls), 1, api.MaxLet); e != api.OK {
		return e
	}
	for _, s := range l.Stalls {
		if s.Rule < api.LetLot || s.Rule > api.LetBid {
			return api.ErrKind
		}
		if e := bounds.Within(s.Least, 0, api.MaxBid); e != api.OK {
			return e
		}
		if e := bounds.Named(s.Heir, len(l.Applicants)); s.Heir != nobody && e != api.OK {
			return e
		}
	}
	return api.OK
}

func checkApplicants(l api.Letting) api.Errno {
	if e := bounds.Counted(len(l.Applicants), 0, api.MaxApplicants); e != api.OK {
		return e
	}
	for _, a := range l.Applicants {
		e := cmp.Or(
			bounds.Within(a.Years, 0, api.MaxYears),
			bounds.Within(a.Token, 0, api.MaxToken),
			checkWishes(a.Wishes, len(l.Stalls)),
			checkBids(a),
		)
		if e != api.OK {
			return e
		}
	}
	return api.OK
}

func checkWishes(wishes []int, stalls int) api.Errno {
	for i, stall := range wishes {
		if e := bounds.Named(stall, stalls); e != api.OK {
			return e
		}
		if slices.Contains(wishes[:i], stall) {
			return api.ErrExists
		}
	}
	return api.OK
}

func checkBids(a api.Applicant) api.Errno {
	if len(a.Bids) != len(a.Wishes) {
		return api.ErrForm
	}
	for _, bid := range a.Bids {
		if e := bounds.Within(bid, 0, api.MaxBid); e != api.OK {
			return e
		}
	}
	return api.OK
}
