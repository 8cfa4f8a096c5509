package beadle_test

import (
	"math"
	"math/rand/v2"
	"reflect"
	"slices"
	"strings"
	"testing"

	"shambles/api"
	"shambles/beadle"
)

// asked returns the errors of Check, Run, Keep and Report; with an error each other result has to be a zero value.
func asked(t *testing.T, m api.Market, diary string) [4]api.Errno {
	t.Helper()
	replies, run := beadle.Run(m, diary)
	d, keep := beadle.Keep(m, diary)
	rows, report := beadle.Report(m, diary)
	if run != api.OK && replies != "" || keep != api.OK && !same(d, api.Desk{}) || report != api.OK && rows != "" {
		t.Error(m, diary, replies, d, rows)
	}
	return [4]api.Errno{beadle.Check(m), run, keep, report}
}

// letWith is a change of the letting.
func letWith(change func(l *api.Letting)) func(m *api.Market) {
	return func(m *api.Market) { change(&m.Letting) }
}

// coldWith is a change of the cellar.
func coldWith(change func(c *api.Cellar)) func(m *api.Market) {
	return func(m *api.Market) { change(&m.Cellar) }
}

// lotWith is a change of the lot.
func lotWith(change func(l *api.Lot)) func(m *api.Market) {
	return func(m *api.Market) { change(&m.Lots[0]) }
}

// due is the change of the steps to some of from and share.
func due(numbers ...int) func(m *api.Market) {
	return func(m *api.Market) {
		m.Steps = nil
		for pair := range slices.Chunk(numbers, 2) {
			m.Steps = append(m.Steps, api.Step{From: pair[0], Share: pair[1]})
		}
	}
}

// together makes all changes.
func together(changes ...func(m *api.Market)) func(m *api.Market) {
	return func(m *api.Market) {
		for _, change := range changes {
			change(m)
		}
	}
}

// P10.1, P10.2, P10.3: each error of a market, from both sides of each bound; it comes before that of the diary.
func TestCheck(t *testing.T) {
	for _, c := range []struct {
		name   string
		change func(m *api.Market)
		want   api.Errno
	}{
		{"M", func(m *api.Market) {}, api.OK},
		{"full", func(m *api.Market) { *m = full() }, api.OK},
		{"nothing", func(m *api.Market) { *m = api.Market{} }, api.ErrShort},
		{"no stalls", letWith(func(l *api.Letting) { l.Stalls = nil }), api.ErrShort},
		{"9 stalls", letWith(func(l *api.Letting) { l.Stalls = make([]api.Stall, 9) }), api.ErrFull},
		{"no such rule", letWith(func(l *api.Letting) { l.Stalls[2].Rule = 0 }), api.ErrKind},
		{"no such heir", letWith(func(l *api.Letting) { l.Stalls[2].Heir = 4 }), api.ErrMissing},
		{"a bid less", letWith(func(l *api.Letting) { l.Applicants[3].Bids = l.Applicants[3].Bids[1:] }), api.ErrForm},
		{"a wish twice", letWith(func(l *api.Letting) { l.Applicants[0].Wishes[0] = 0 }), api.ErrExists},
		{"no applicants", letWith(func(l *api.Letting) { l.Applicants, l.Stalls[2].Heir = nil, nobody }), api.OK},
		{"the day 0", func(m *api.Market) { m.Day = 0 }, api.OK},
		{"the day 6", func(m *api.Market) { m.Day = 6 }, api.OK},
		{"the day 7", func(m *api.Market) { m.Day = 7 }, api.ErrRange},
		{"a day below 0", func(m *api.Market) { m.Day = -1 }, api.ErrRange},
		{"a day far off", func(m *api.Market) { m.Day = math.MinInt }, api.ErrRange},
		{"no goods", func(m *api.Market) { m.Goods = 0 }, api.ErrRange},
		{"goods below 0", func(m *api.Market) { m.Goods = math.MinInt }, api.ErrRange},
		{"8 goods", func(m *api.Market) { m.Goods = 8 }, api.OK},
		{"9 goods", func(m *api.Market) { m.Goods = 9 }, api.ErrRange},
		{"no steps", due(), api.ErrShort},
		{"5 steps", due(0, 0, 1, 1, 2, 2, 3, 3, 4, 4), api.OK},
		{"6 steps", due(0, 0, 1, 1, 2, 2, 3, 3, 4, 4, 5, 5), api.ErrFull},
		{"a share below 0", due(0, -1), api.ErrRange},
		{"the share 1001", due(0, 1001), api.ErrRange},
		{"a first step from 1", due(1, 0), api.ErrForm},
		{"steps from the same on", due(0, 0, 0, 0), api.ErrOrder},
		{"a step from too much on", due(0, 0, 1000000001, 0), api.ErrRange},
		{"no rates", coldWith(func(c *api.Cellar) { c.Rates = nil }), api.ErrShort},
		{"cold and warm", coldWith(func(c *api.Cellar) { c.Boxes[0].Cold = span(51, 52) }), api.ErrClash},
		{"no such box for a filling", coldWith(func(c *api.Cellar) { c.Fillings[0].Box = 1 }), api.ErrMissing},
		{"no such box for a stay", coldWith(func(c *api.Cellar) { c.Boxes, c.Fillings = nil, nil }), api.ErrMissing},
		{"no lots", func(m *api.Market) { m.Lots = nil }, api.OK},
		{"20 lots", func(m *api.Market) { m.Lots = make([]api.Lot, 20) }, api.OK},
		{"21 lots", func(m *api.Market) { m.Lots = make([]api.Lot, 21) }, api.ErrFull},
		{"a lot that keeps less than nothing", lotWith(func(l *api.Lot) { l.Keeps = -1 }), api.ErrRange},
		{"a lot that is born too late", lotWith(func(l *api.Lot) { l.Born = 240 }), api.ErrRange},
		{"9 stays", lotWith(func(l *api.Lot) { l.Stays = make([]api.Stay, 9) }), api.ErrFull},
		{"a stay before a lot is born", lotWith(func(l *api.Lot) { l.Born = 1 }), api.ErrOrder},
		{"the second lot", func(m *api.Market) { m.Lots = append(m.Lots, api.Lot{Keeps: 100001}) }, api.ErrRange},
	} {
		m := changed(c.change)
		ofDiary := func(e api.Errno) [4]api.Errno {
			if c.want != api.OK {
				e = c.want
			}
			return [4]api.Errno{c.want, e, e, e}
		}
		for diary, e := range map[string]api.Errno{
			"":                                  api.OK,
			page("let", "holders"):              api.OK,
			"x":                                 api.ErrForm,
			strings.Repeat("\n", 61):            api.ErrFull,
			strings.Repeat("x", 3001):           api.ErrLong,
			page("let") + page("seal") + "seal": api.ErrForm,
		} {
			if got := asked(t, m, diary); got != ofDiary(e) {
				t.Errorf("%s: %q: %v", c.name, diary, got)
			}
		}
	}
}

// P10.1, R1: of several errors of a market the first one is told.
func TestCheckOrder(t *testing.T) {
	changes := []struct {
		change func(m *api.Market)
		want   api.Errno
	}{
		{letWith(func(l *api.Letting) { l.Stalls[0].Rule = 4 }), api.ErrKind},
		{func(m *api.Market) { m.Day = 7 }, api.ErrRange},
		{due(), api.ErrShort},
		{coldWith(func(c *api.Cellar) { c.Boxes[0].Cold = span(51, 52) }), api.ErrClash},
		{func(m *api.Market) { m.Lots = append(make([]api.Lot, 20), m.Lots...) }, api.ErrFull},
		{func(m *api.Market) { m.Lots[len(m.Lots)-1].Stays[0].Box = 1 }, api.ErrMissing},
	}
	for i, c := range changes {
		for _, later := range changes[i:] {
			if e := beadle.Check(changed(together(later.change, c.change))); e != c.want {
				t.Error(i, e, c.want)
			}
		}
	}
	lots := func(a, b api.Lot) func(m *api.Market) {
		return func(m *api.Market) { m.Lots = []api.Lot{a, b} }
	}
	early, away := api.Lot{Keeps: -1}, api.Lot{Stays: []api.Stay{{Box: 1, To: 1}}}
	for i, c := range []struct {
		change func(m *api.Market)
		want   api.Errno
	}{
		{func(m *api.Market) { m.Goods, m.Steps = 9, nil }, api.ErrRange},
		{func(m *api.Market) { m.Goods, m.Steps = 0, nil }, api.ErrRange},
		{together(due(1, 0), coldWith(func(c *api.Cellar) { c.Rates = nil })), api.ErrForm},
		{lots(early, away), api.ErrRange},
		{lots(away, early), api.ErrMissing},
	} {
		if e := beadle.Check(changed(c.change)); e != c.want {
			t.Error(i, e, c.want)
		}
	}
}

// P10.1, P10.2, P10.3: the errors of a diary, in their order, from both sides of each bound.
func TestDiaryErrors(t *testing.T) {
	lines := func(many int) string { return strings.Repeat("\n", many) }
	letters := func(many int) string { return strings.Repeat("x", many) }
	for i, c := range []struct {
		diary string
		want  api.Errno
	}{
		{"", api.OK},
		{"\n", api.OK},
		{"let\n", api.OK},
		{"let", api.ErrForm},
		{"let\nseal", api.ErrForm},
		{"let\n ", api.ErrForm},
		{"\nx", api.ErrForm},
		{"let\r", api.ErrForm},
		{"let\n\x00", api.ErrForm},
		{lines(60), api.OK},
		{lines(61), api.ErrFull},
		{strings.Repeat("let\n", 60), api.OK},
		{strings.Repeat("let\n", 61), api.ErrFull},
		{lines(60) + "x", api.ErrForm},
		{lines(61) + "x", api.ErrForm},
		{letters(2999) + "\n", api.OK},
		{letters(3000) + "\n", api.ErrLong},
		{letters(3000), api.ErrForm},
		{letters(3001), api.ErrLong},
		{lines(3000), api.ErrFull},
		{lines(3001), api.ErrLong},
		{lines(60) + letters(2939) + "\n", api.ErrFull},
		{lines(59) + letters(2940) + "\n", api.OK},
		{lines(59) + letters(2941) + "\n", api.ErrLong},
		{strings.Repeat("é", 1499) + "x\n", api.OK},
		{strings.Repeat("é", 1500) + "\n", api.ErrLong},
	} {
		if got := asked(t, market(), c.diary); got != [4]api.Errno{api.OK, c.want, c.want, c.want} {
			t.Error(i, got, c.want)
		}
	}
}

// oddNumbers are at bounds, and far beyond them.
var oddNumbers = []int{math.MinInt, -1, 0, 1, 2, 3, 6, 7, 8, 9, 20, 239, 240, 241, 1000, 1001, 100000, 1000001, math.MaxInt}

// spoil puts odd numbers into a market.
func spoil(r *rand.Rand, m *api.Market) {
	pick := func() int { return oddNumbers[r.IntN(len(oddNumbers))] }
	switch r.IntN(8) {
	case 0:
		m.Day = pick()
	case 1:
		m.Goods = pick()
	case 2:
		m.Steps = append(m.Steps, api.Step{From: pick(), Share: pick()})
	case 3:
		m.Letting.Stalls[0] = api.Stall{Rule: pick(), Least: pick(), Heir: pick()}
	case 4:
		m.Letting.Applicants = append(m.Letting.Applicants, api.Applicant{Years: pick(), Token: pick(), Wishes: []int{pick()}, Bids: []int{pick()}})
	case 5:
		m.Cellar.Boxes = append(m.Cellar.Boxes, api.Box{Room: pick(), Ice: span(pick(), pick()), Melt: span(pick(), pick())})
	case 6:
		m.Lots = append(m.Lots, api.Lot{Born: pick(), Keeps: pick(), Stays: []api.Stay{{Box: pick(), From: pick(), To: pick()}}})
	case 7:
		m.Lots = append(m.Lots, api.Lot{Born: r.IntN(240), Keeps: r.IntN(100)})
	}
}

// pickText returns a diary that is hardly one.
func pickText(r *rand.Rand) string {
	pieces := []string{"\n", " ", "at", "let", "sold", "found", "serve", "0", "1", "999999", "-", "\xff", "\x00", "é", "N", "?"}
	var text strings.Builder
	for range r.IntN(60) {
		text.WriteString(pieces[r.IntN(len(pieces))])
	}
	return text.String() + "\n"
}

// P1: no argument makes a function panic; all functions have the same error.
func TestAnyArguments(t *testing.T) {
	r := rand.New(rand.NewPCG(1, 10))
	valid := 0
	for range 4000 {
		m := pickMarket(t, r, 3)
		diary := pickText(r)
		if r.IntN(2) == 0 {
			diary = page(pickNotes(r, m, 1+r.IntN(50))...)
		}
		if r.IntN(3) > 0 {
			spoil(r, &m)
		}
		e := asked(t, m, diary)
		if e[1] != e[2] || e[1] != e[3] || e[0] != api.OK && e[0] != e[1] {
			t.Fatal(m, diary, e)
		}
		if e[1] == api.OK {
			valid++
		}
	}
	if valid < 1000 {
		t.Error("few valid ones:", valid)
	}
}

// R4: arguments stay as they are, and results share no memory.
func TestMemory(t *testing.T) {
	diary := page("let", "serve 0", "sold 0 0 1 2 3 4", "sold 1 0 1 2 3 4", "found 1 1 3", "swap", "at 540")
	m := market()
	for range 2 {
		d, e := beadle.Keep(m, diary)
		want := api.Desk{
			Minute:  540,
			Holders: []int{2, 1, 3},
			Sales:   []api.Sale{{Grams: span(1, 2), Cents: span(3, 4)}, {Stall: 1, Grams: span(1, 2), Cents: span(3, 4)}},
			Finds:   []api.Found{{Sale: 1, Grams: 1, Cents: 3}},
			Served:  []int{0},
		}
		if e != api.OK || !same(d, want) {
			t.Error(d, e)
		}
		clear(d.Holders)
		clear(d.Sales)
		clear(d.Finds)
		clear(d.Served)
		beadle.Run(m, diary)
		beadle.Report(m, diary)
	}
	if !reflect.DeepEqual(m, market()) {
		t.Error(m)
	}
}
