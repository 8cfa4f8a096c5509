package beadle_test

import (
	"fmt"
	"math/rand/v2"
	"slices"
	"testing"

	"shambles/api"
	"shambles/cold"
	"shambles/price"
	"shambles/stall"
)

// daysOfYear is how many days a year has.
const daysOfYear = 365

// readBack returns a market with the letting, the cellar and the lots read from what was written of them.
func readBack(t *testing.T, m api.Market) api.Market {
	t.Helper()
	roll, e := stall.Write(m.Letting)
	journal, f := cold.Write(m.Cellar, m.Lots)
	if e != api.OK || f != api.OK {
		t.Fatal(m, e, f)
	}
	read := m
	read.Letting, _, e = stall.Read(roll)
	read.Cellar, read.Lots, _, f = cold.Read(journal)
	if e != api.OK || f != api.OK {
		t.Fatal(m, roll, journal, e, f)
	}
	return read
}

// T8: days replay from their books: with what was read all notes have the same replies, desks and reports; and the accounts of each day have its sales, and the seal that the beadle tells.
func TestYear(t *testing.T) {
	r := rand.New(rand.NewPCG(8, 10))
	sales := 0
	for date := range daysOfYear {
		m := pickMarket(t, r, 5)
		m.Day = date % 7
		notes := append(pickNotes(r, m, 50), "seal")
		read := readBack(t, m)
		replies := replied(t, m, notes...)
		d := kept(t, m, notes...)
		if !slices.Equal(replied(t, read, notes...), replies) || !same(kept(t, read, notes...), d) || !slices.Equal(reported(t, read, notes...), reported(t, m, notes...)) {
			t.Fatal(m, read, notes)
		}
		accounts, e := price.Write(api.Book{Stalls: len(m.Letting.Stalls), Goods: m.Goods, Sales: d.Sales})
		if e != api.OK {
			t.Fatal(m, d, e)
		}
		b, row, e := price.Read(accounts)
		if e != api.OK || !slices.Equal(b.Sales, d.Sales) || b.Stalls != len(m.Letting.Stalls) || b.Goods != m.Goods {
			t.Fatal(accounts, b, row, e)
		}
		rows := rowsIn(t, accounts)
		if want := fmt.Sprint("end ", len(d.Sales), " ", replies[len(notes)-1]); rows[len(rows)-1] != want {
			t.Fatal(accounts, want)
		}
		sales += len(b.Sales)
	}
	if sales < 500 {
		t.Error("few sales:", sales)
	}
}
