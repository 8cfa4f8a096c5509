package swap

import (
	"cmp"

	"shambles/api"
	"shambles/bounds"
)

// Check returns the first error of a trade.
func Check(t api.Trade) api.Errno {
	e := cmp.Or(
		bounds.Counted(len(t.Owns), 0, api.MaxTraders),
		bounds.Unless(len(t.Likes) == len(t.Owns), api.ErrForm),
	)
	if e != api.OK {
		return e
	}
	for trader, likes := range t.Likes {
		if e := cmp.Or(checkNext(t.Owns, trader), checkLikes(likes)); e != api.OK {
			return e
		}
	}
	return api.OK
}

// CheckHeld returns the first error of a trade, then that of its held turns.
func CheckHeld(t api.Trade, held []api.Turn) api.Errno {
	if e := cmp.Or(Check(t), bounds.Unless(len(held) == len(t.Owns), api.ErrForm)); e != api.OK {
		return e
	}
	for trader, turn := range held {
		e := cmp.Or(
			bounds.Unless(has(t.Owns, turn), api.ErrMissing),
			bounds.Unless(!has(held[:trader], turn), api.ErrExists),
		)
		if e != api.OK {
			return e
		}
	}
	return api.OK
}

func checkLikes(likes []api.Turn) api.Errno {
	if e := bounds.Counted(len(likes), 0, api.MaxLikes); e != api.OK {
		return e
	}
	for i := range likes {
		if e := checkNext(likes, i); e != api.OK {
			return e
		}
	}
	return api.OK
}

// checkNext returns the error of the turn at a place of a list, in which each turn stands at most once.
func checkNext(list []api.Turn, at int) api.Errno {
	turn := list[at]
	return cmp.Or(
		bounds.Within(turn.Stall, 0, api.MaxLet-1),
		bounds.Within(turn.Day, 0, api.MaxWeek-1),
		bounds.Unless(!has(list[:at], turn), api.ErrExists),
	)
}
