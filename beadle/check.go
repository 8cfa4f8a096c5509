package beadle

import (
	"cmp"
	"strings"

	"shambles/api"
	"shambles/bounds"
	"shambles/cold"
	"shambles/price"
	"shambles/stall"
)

// Check returns the first error of a market.
func Check(m api.Market) api.Errno {
	return cmp.Or(
		stall.Check(m.Letting),
		bounds.Within(m.Day, 0, api.MaxWeek-1),
		bounds.Within(m.Goods, 1, api.MaxWares),
		checkSteps(m),
		cold.Check(m.Cellar),
		checkLots(m),
	)
}

// checkSteps returns the error of steps: they are valid whatever was sold, if they are for a book without sales.
func checkSteps(m api.Market) api.Errno {
	_, e := price.Dues(api.Book{Stalls: 1, Goods: m.Goods}, m.Steps)
	return e
}

func checkLots(m api.Market) api.Errno {
	if e := bounds.Counted(len(m.Lots), 0, api.MaxLots); e != api.OK {
		return e
	}
	for _, l := range m.Lots {
		if e := cold.CheckLot(m.Cellar, l); e != api.OK {
			return e
		}
	}
	return api.OK
}

// check returns the first error of a market, then that of a diary.
func check(m api.Market, diary string) api.Errno { return cmp.Or(Check(m), checkDiary(diary)) }

func checkDiary(diary string) api.Errno {
	return cmp.Or(
		bounds.Unless(len(diary) <= api.MaxDiary, api.ErrLong),
		bounds.Unless(diary == "" || strings.HasSuffix(diary, "\n"), api.ErrForm),
		bounds.Counted(strings.Count(diary, "\n"), 0, api.MaxNotes),
	)
}
