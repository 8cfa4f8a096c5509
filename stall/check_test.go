package stall_test

import (
	"math"
	"math/rand/v2"
	"testing"

	"shambles/api"
	"shambles/stall"
)

type checkCase struct {
	name   string
	change func(l *api.Letting)
	want   api.Errno
}

// P2.1: each bound of the stalls of a letting, from both of its sides.
func TestStallBounds(t *testing.T) {
	run(t, []checkCase{
		{"as it is", func(l *api.Letting) {}, api.OK},
		{"no stalls", func(l *api.Letting) { l.Stalls = nil }, api.ErrShort},
		{"empty stalls", func(l *api.Letting) { l.Stalls = []api.Stall{} }, api.ErrShort},
		{"most of all", func(l *api.Letting) { *l = full() }, api.OK},
		{"too many stalls", func(l *api.Letting) { *l = full(); l.Stalls = append(l.Stalls, l.Stalls[0]) }, api.ErrFull},
		{"rule 0", func(l *api.Letting) { l.Stalls[0].Rule = 0 }, api.ErrKind},
		{"rule 4", func(l *api.Letting) { l.Stalls[2].Rule = 4 }, api.ErrKind},
		{"rule below 0", func(l *api.Letting) { l.Stalls[2].Rule = -1 }, api.ErrKind},
		{"least 0", func(l *api.Letting) { l.Stalls[1].Least = 0 }, api.OK},
		{"least below 0", func(l *api.Letting) { l.Stalls[1].Least = -1 }, api.ErrRange},
		{"least most", func(l *api.Letting) { l.Stalls[1].Least = 1000000 }, api.OK},
		{"least too much", func(l *api.Letting) { l.Stalls[1].Least = 1000001 }, api.ErrRange},
		{"heir first", func(l *api.Letting) { l.Stalls[0].Heir = 0 }, api.OK},
		{"heir last", func(l *api.Letting) { l.Stalls[0].Heir = 3 }, api.OK},
		{"heir is none", func(l *api.Letting) { l.Stalls[0].Heir = 4 }, api.ErrMissing},
		{"heir below -1", func(l *api.Letting) { l.Stalls[0].Heir = -2 }, api.ErrMissing},
		{"heir of all", func(l *api.Letting) { l.Stalls[0].Heir, l.Stalls[1].Heir = 2, 2 }, api.OK},
		{"heir without applicants", func(l *api.Letting) { l.Applicants = nil }, api.ErrMissing},
	})
}

// P2.1: each bound of the applicants of a letting, from both of its sides.
func TestApplicantBounds(t *testing.T) {
	run(t, []checkCase{
		{"no applicants", func(l *api.Letting) { *l = unwished() }, api.OK},
		{"too many applicants", func(l *api.Letting) { l.Applicants = make([]api.Applicant, 9) }, api.ErrFull},
		{"years 0", func(l *api.Letting) { l.Applicants[3].Years = 0 }, api.OK},
		{"years below 0", func(l *api.Letting) { l.Applicants[3].Years = -1 }, api.ErrRange},
		{"years most", func(l *api.Letting) { l.Applicants[3].Years = 60 }, api.OK},
		{"years too many", func(l *api.Letting) { l.Applicants[3].Years = 61 }, api.ErrRange},
		{"token 0", func(l *api.Letting) { l.Applicants[3].Token = 0 }, api.OK},
		{"token below 0", func(l *api.Letting) { l.Applicants[3].Token = -1 }, api.ErrRange},
		{"token most", func(l *api.Letting) { l.Applicants[3].Token = 1000000000 }, api.OK},
		{"token too much", func(l *api.Letting) { l.Applicants[3].Token = 1000000001 }, api.ErrRange},
		{"wish is none", func(l *api.Letting) { l.Applicants[3].Wishes[2] = 3 }, api.ErrMissing},
		{"wish below 0", func(l *api.Letting) { l.Applicants[3].Wishes[2] = -1 }, api.ErrMissing},
		{"wish twice", func(l *api.Letting) { l.Applicants[3].Wishes[2] = 2 }, api.ErrExists},
		{"no wishes", func(l *api.Letting) { l.Applicants[3].Wishes, l.Applicants[3].Bids = nil, nil }, api.OK},
		{"a bid less", func(l *api.Letting) { l.Applicants[3].Bids = []int{400, 0} }, api.ErrForm},
		{"a bid more", func(l *api.Letting) { l.Applicants[3].Bids = []int{400, 0, 0, 0} }, api.ErrForm},
		{"no bids", func(l *api.Letting) { l.Applicants[3].Bids = nil }, api.ErrForm},
		{"bids alone", func(l *api.Letting) { l.Applicants[3].Wishes = nil }, api.ErrForm},
		{"bid below 0", func(l *api.Letting) { l.Applicants[3].Bids[2] = -1 }, api.ErrRange},
		{"bid most", func(l *api.Letting) { l.Applicants[3].Bids[2] = 1000000 }, api.OK},
		{"bid too much", func(l *api.Letting) { l.Applicants[3].Bids[2] = 1000001 }, api.ErrRange},
		{"bid below least", func(l *api.Letting) { l.Applicants[3].Bids[0] = 299 }, api.OK},
	})
}

// P2.1, R1: of two errors the one is told that the chapter names first.
func TestCheckOrder(t *testing.T) {
	run(t, []checkCase{
		{"number of stalls first", func(l *api.Letting) { l.Stalls = make([]api.Stall, 9) }, api.ErrFull},
		{"rule, then least", func(l *api.Letting) { l.Stalls[0] = api.Stall{Least: -1, Heir: -2} }, api.ErrKind},
		{"least, then heir", func(l *api.Letting) { l.Stalls[0].Least, l.Stalls[0].Heir = -1, -2 }, api.ErrRange},
		{"stall by stall", func(l *api.Letting) { l.Stalls[0].Heir, l.Stalls[1].Rule = 4, 0 }, api.ErrMissing},
		{"stalls, then applicants", func(l *api.Letting) { l.Stalls[2].Heir, l.Applicants = 9, make([]api.Applicant, 9) }, api.ErrMissing},
		{"a ninth heir", func(l *api.Letting) { l.Stalls[2].Heir, l.Applicants = 8, make([]api.Applicant, 9) }, api.ErrFull},
		{"number of applicants first", func(l *api.Letting) { l.Applicants = make([]api.Applicant, 9); l.Applicants[0].Years = -1 }, api.ErrFull},
		{"years, then wishes", func(l *api.Letting) { l.Applicants[0].Years, l.Applicants[0].Wishes = 61, []int{9} }, api.ErrRange},
		{"token, then wishes", func(l *api.Letting) { l.Applicants[0].Token, l.Applicants[0].Wishes = -1, []int{1, 1} }, api.ErrRange},
		{"missing wish first", func(l *api.Letting) { l.Applicants[0].Wishes = []int{3, 3} }, api.ErrMissing},
		{"wish by wish", func(l *api.Letting) { l.Applicants[0].Wishes = []int{1, 1, 3} }, api.ErrExists},
		{"wishes, then bids", func(l *api.Letting) { l.Applicants[0].Wishes = []int{1, 1, 0} }, api.ErrExists},
		{"number of bids first", func(l *api.Letting) { l.Applicants[0].Bids = []int{-1} }, api.ErrForm},
		{"applicant by applicant", func(l *api.Letting) { l.Applicants[0].Bids, l.Applicants[1].Years = nil, -1 }, api.ErrForm},
		{"bids before the next one", func(l *api.Letting) { l.Applicants[0].Bids[0], l.Applicants[1].Wishes[0] = -1, 9 }, api.ErrRange},
	})
}

// run holds Check, and all that return its error, against what is wanted.
func run(t *testing.T, cases []checkCase) {
	t.Helper()
	for _, c := range cases {
		l := changed(c.change)
		if e := stall.Check(l); e != c.want {
			t.Errorf("%s: %v, want %v", c.name, e, c.want)
		}
		if c.want == api.OK {
			continue
		}
		drawn, d := stall.Draw(l)
		ranked, r := stall.Ranks(l, 99)
		holders, h := stall.Let(l)
		held := stall.CheckHolders(l, nil)
		envies, f := stall.Envies(l, nil)
		rents, g := stall.Rents(l, nil)
		text, w := stall.Write(l)
		for _, got := range []api.Errno{d, r, h, held, f, g, w} {
			if got != c.want {
				t.Errorf("%s: %v, want %v", c.name, got, c.want)
			}
		}
		if drawn != nil || ranked != nil || holders != nil || envies != nil || rents != nil || text != "" {
			t.Errorf("%s: results beside an error", c.name)
		}
	}
}

// P2.2: each error of holders, and the one that comes first.
func TestHolders(t *testing.T) {
	low := changed(func(l *api.Letting) { l.Applicants[2].Bids[1] = 299 })
	for _, c := range []struct {
		l       api.Letting
		holders []int
		want    api.Errno
	}{
		{letting(), []int{3, 1, 2}, api.OK},
		{letting(), []int{nobody, nobody, nobody}, api.OK},
		{letting(), []int{0, nobody, nobody}, api.OK},
		{unwished(), []int{nobody, nobody, nobody}, api.OK},
		{letting(), nil, api.ErrForm},
		{letting(), []int{9, 9}, api.ErrForm},
		{letting(), []int{9, 9, 9, 9}, api.ErrForm},
		{letting(), []int{4, 1, 2}, api.ErrMissing},
		{letting(), []int{-2, 1, 2}, api.ErrMissing},
		{letting(), []int{3, 1, math.MaxInt}, api.ErrMissing},
		{unwished(), []int{0, nobody, nobody}, api.ErrMissing},
		{letting(), []int{3, 3, 2}, api.ErrExists},
		{letting(), []int{3, nobody, 3}, api.ErrExists},
		{letting(), []int{1, nobody, nobody}, api.ErrClash},
		{letting(), []int{nobody, nobody, 0}, api.ErrClash},
		{low, []int{3, 1, 2}, api.ErrClash},
		{low, []int{2, 1, 3}, api.OK},
		{letting(), []int{0, nobody, 0}, api.ErrExists},
		{letting(), []int{1, 1, 9}, api.ErrClash},
		{letting(), []int{3, 3, 9}, api.ErrExists},
		{letting(), []int{9, 2, 2}, api.ErrMissing},
	} {
		envies, f := stall.Envies(c.l, c.holders)
		rents, g := stall.Rents(c.l, c.holders)
		if e := stall.CheckHolders(c.l, c.holders); e != c.want || f != e || g != e {
			t.Error(c.holders, e, f, g, c.want)
		}
		if c.want != api.OK && (envies != nil || rents != nil) {
			t.Error(c.holders, "results beside an error")
		}
	}
}

// P1: no argument makes a function panic.
func TestAnyArguments(t *testing.T) {
	r := rand.New(rand.NewPCG(1, 1))
	odd := []int{math.MinInt, -2, -1, 0, 1, 2, 3, 4, 8, 9, 61, math.MaxInt}
	pick := func() int { return odd[r.IntN(len(odd))] }
	for range 20000 {
		l := pickLetting(r, 10, 10)
		for i := range l.Stalls {
			if r.IntN(8) == 0 {
				l.Stalls[i] = api.Stall{Rule: pick(), Least: pick(), Heir: pick()}
			}
		}
		for i := range l.Applicants {
			if r.IntN(8) == 0 {
				l.Applicants[i] = api.Applicant{Years: pick(), Token: pick(), Wishes: []int{pick(), pick()}, Bids: []int{pick(), pick()}}
			}
		}
		holders := []int{pick(), pick(), pick()}[:r.IntN(4)]
		valid := stall.Check(l) == api.OK
		stall.Draw(l)
		stall.Ranks(l, pick())
		stall.Envies(l, holders)
		stall.Rents(l, holders)
		stall.Write(l)
		if _, e := stall.Let(l); valid != (e == api.OK) {
			t.Fatal(l, e)
		}
	}
}

// R4: arguments stay as they are, and results share no memory.
func TestMemory(t *testing.T) {
	l, holders := letting(), []int{2, 1, 3}
	call := func() [][]int {
		drawn, _ := stall.Draw(l)
		ranked, _ := stall.Ranks(l, 0)
		let, _ := stall.Let(l)
		rents, _ := stall.Rents(l, holders)
		envies, _ := stall.Envies(l, holders)
		return [][]int{drawn, ranked, let, rents, {len(envies), envies[0].Applicant, envies[0].Stall}}
	}
	want := [][]int{{3, 0, 1, 2}, {3, 0, 2}, {3, 1, 2}, {100, 200, 400}, {1, 0, 0}}
	for range 2 {
		for i, got := range call() {
			if !equal(got, want[i]) {
				t.Error(i, got, want[i])
			}
			clear(got)
		}
	}
	if !same(l, letting()) || !equal(holders, []int{2, 1, 3}) {
		t.Error(l, holders)
	}
	first, _, _ := stall.Read(roll)
	first.Applicants[0].Wishes = append(first.Applicants[0].Wishes, 99)
	if clear(first.Applicants[0].Bids); !equal(first.Applicants[1].Wishes, []int{1, 2}) {
		t.Error(first)
	}
	if again, _, _ := stall.Read(roll); !same(again, letting()) {
		t.Error(again)
	}
}
