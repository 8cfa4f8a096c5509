package beadle_test

import (
	"iter"
	"math/rand/v2"
	"slices"
	"strings"
	"testing"

	"shambles/api"
	"shambles/beadle"
)

func span(low, high int) api.Span { return api.Span{Lo: low, Hi: high} }

func one(n int) api.Span { return span(n, n) }

// nobody stands where a stall has no holder.
const nobody = -1

// letting is the letting L of the examples of layer 2.
func letting() api.Letting {
	return api.Letting{
		Stalls: []api.Stall{
			{Rule: api.LetLot, Least: 100, Heir: nobody},
			{Rule: api.LetYears, Least: 200, Heir: nobody},
			{Rule: api.LetBid, Least: 300, Heir: 2},
		},
		Applicants: []api.Applicant{
			{Years: 5, Token: 7, Wishes: []int{1, 0}, Bids: []int{0, 0}},
			{Years: 9, Token: 11, Wishes: []int{1, 2}, Bids: []int{0, 500}},
			{Years: 2, Token: 5, Wishes: []int{0, 2}, Bids: []int{0, 300}},
			{Years: 5, Token: 4, Wishes: []int{2, 1, 0}, Bids: []int{400, 0, 0}},
		},
	}
}

// cellar is the cellar C of the examples of layer 4.
func cellar() api.Cellar {
	return api.Cellar{
		Hall:     span(100, 150),
		Boxes:    []api.Box{{Room: 1000, Ice: span(500, 600), Melt: span(200, 250), Cold: span(-10, 10), Warm: span(50, 80)}},
		Fillings: []api.Filling{{Box: 0, Hour: 4, Grams: 300}},
		Rates:    []api.Rate{{Above: -50, Loss: 1}, {Above: 20, Loss: 5}, {Above: 100, Loss: 20}},
	}
}

// market is the market M of the chapter's examples.
func market() api.Market {
	return api.Market{
		Letting: letting(),
		Day:     4,
		Goods:   1,
		Steps:   []api.Step{{From: 0, Share: 100}},
		Cellar:  cellar(),
		Lots:    []api.Lot{{Born: 0, Keeps: 60, Stays: []api.Stay{{Box: 0, From: 0, To: 6}}}},
	}
}

// changed is the market M with a change.
func changed(change func(m *api.Market)) api.Market {
	m := market()
	change(&m)
	return m
}

// full is a market with as much as there may be of everything.
func full() api.Market {
	m := api.Market{Day: 6, Goods: 8}
	for stall := range 8 {
		m.Letting.Stalls = append(m.Letting.Stalls, api.Stall{Rule: api.LetBid, Least: 1000000, Heir: 7 - stall})
		m.Letting.Applicants = append(m.Letting.Applicants, api.Applicant{
			Years:  60,
			Token:  1000000000,
			Wishes: []int{7, 6, 5, 4, 3, 2, 1, 0},
			Bids:   slices.Repeat([]int{1000000}, 8),
		})
	}
	for step := range 5 {
		m.Steps = append(m.Steps, api.Step{From: step * 250000000, Share: 1000})
	}
	m.Cellar.Hall = span(-300, 400)
	for range 6 {
		m.Cellar.Boxes = append(m.Cellar.Boxes, api.Box{Room: 100000, Ice: span(0, 100000), Melt: span(0, 100000), Cold: span(-300, 400), Warm: span(400, 400)})
	}
	for range 20 {
		m.Cellar.Fillings = append(m.Cellar.Fillings, api.Filling{Box: 5, Hour: 239, Grams: 100000})
	}
	for rate := range 6 {
		m.Cellar.Rates = append(m.Cellar.Rates, api.Rate{Above: 100*rate - 100, Loss: 1000})
	}
	for range 20 {
		l := api.Lot{Born: 0, Keeps: 100000}
		for hour := range 8 {
			l.Stays = append(l.Stays, api.Stay{Box: hour % 6, From: 30 * hour, To: 30*hour + 30})
		}
		m.Lots = append(m.Lots, l)
	}
	return m
}

// page is notes as they stand in a diary.
func page(notes ...string) string {
	if len(notes) == 0 {
		return ""
	}
	return strings.Join(notes, "\n") + "\n"
}

// list is notes, or replies, that are separated by "; ".
func list(text string) []string { return strings.Split(text, "; ") }

// rowsIn are the rows of a text, each of which has to be ended by a line feed.
func rowsIn(t *testing.T, text string) []string {
	t.Helper()
	if text == "" {
		return nil
	}
	whole, ok := strings.CutSuffix(text, "\n")
	if !ok {
		t.Fatalf("the last row has no end: %q", text)
	}
	return strings.Split(whole, "\n")
}

// replied returns the replies to notes.
func replied(t *testing.T, m api.Market, notes ...string) []string {
	t.Helper()
	text, e := beadle.Run(m, page(notes...))
	replies := rowsIn(t, text)
	if e != api.OK || len(replies) != len(notes) {
		t.Fatal(m, notes, text, e)
	}
	return replies
}

// kept returns the desk after notes.
func kept(t *testing.T, m api.Market, notes ...string) api.Desk {
	t.Helper()
	d, e := beadle.Keep(m, page(notes...))
	if e != api.OK {
		t.Fatal(m, notes, e)
	}
	return d
}

// reported returns the rows of the report after notes.
func reported(t *testing.T, m api.Market, notes ...string) []string {
	t.Helper()
	text, e := beadle.Report(m, page(notes...))
	if e != api.OK {
		t.Fatal(m, notes, e)
	}
	return rowsIn(t, text)
}

// same says whether desks are equal; a nil slice is equal to an empty one.
func same(a, b api.Desk) bool {
	return a.Minute == b.Minute && slices.Equal(a.Holders, b.Holders) && slices.Equal(a.Sales, b.Sales) && slices.Equal(a.Finds, b.Finds) && slices.Equal(a.Served, b.Served)
}

// refused says whether a note with this reply is refused.
func refused(reply string) bool { return strings.HasPrefix(reply, "error") }

// pickLetting returns a letting of at most so many stalls and applicants; now and then it is nearly L, with which there often is something to swap.
func pickLetting(r *rand.Rand, most int) api.Letting {
	if most >= 4 && r.IntN(4) == 0 {
		l := letting()
		for a := range l.Applicants {
			l.Applicants[a].Token = r.IntN(1000)
		}
		return l
	}
	var l api.Letting
	applicants := most - r.IntN(2)*r.IntN(most+1)
	for range 1 + r.IntN(most) {
		s := api.Stall{Rule: 1 + r.IntN(3), Least: r.IntN(3), Heir: nobody}
		if applicants > 0 && r.IntN(3) == 0 {
			s.Heir = r.IntN(applicants)
		}
		l.Stalls = append(l.Stalls, s)
	}
	for range applicants {
		a := api.Applicant{Years: r.IntN(4), Token: r.IntN(1000)}
		a.Wishes = r.Perm(len(l.Stalls))[:max(0, len(l.Stalls)-r.IntN(2))]
		for range a.Wishes {
			a.Bids = append(a.Bids, r.IntN(8))
		}
		l.Applicants = append(l.Applicants, a)
	}
	return l
}

// pickSpan returns a span from low to high.
func pickSpan(r *rand.Rand, low, high int) api.Span {
	a, b := low+r.IntN(high-low+1), low+r.IntN(high-low+1)
	return span(min(a, b), max(a, b))
}

// pickCellar returns a cellar with ice for some hours.
func pickCellar(r *rand.Rand) api.Cellar {
	c := api.Cellar{Hall: pickSpan(r, 80, 150)}
	for range r.IntN(3) {
		room := 100 * r.IntN(10)
		c.Boxes = append(c.Boxes, api.Box{Room: room, Ice: pickSpan(r, 0, room), Melt: pickSpan(r, 20, 80), Cold: pickSpan(r, -20, 20), Warm: pickSpan(r, 20, 80)})
	}
	if len(c.Boxes) > 0 && r.IntN(2) == 0 {
		c.Fillings = append(c.Fillings, api.Filling{Box: r.IntN(len(c.Boxes)), Hour: r.IntN(24), Grams: 100 * r.IntN(5)})
	}
	c.Rates = []api.Rate{{Above: -300, Loss: r.IntN(2)}, {Above: 50, Loss: 1 + r.IntN(5)}, {Above: 100, Loss: 10}}
	return c
}

// pickLot returns a lot that keeps for some hours.
func pickLot(r *rand.Rand, c api.Cellar) api.Lot {
	l := api.Lot{Born: r.IntN(12), Keeps: r.IntN(80)}
	free := l.Born
	for range r.IntN(3) {
		if len(c.Boxes) > 0 {
			from := free + r.IntN(3)
			free = from + 1 + r.IntN(8)
			l.Stays = append(l.Stays, api.Stay{Box: r.IntN(len(c.Boxes)), From: from, To: free})
		}
	}
	return l
}

// pickMarket returns a market of at most so many stalls and applicants.
func pickMarket(t *testing.T, r *rand.Rand, most int) api.Market {
	t.Helper()
	m := api.Market{Letting: pickLetting(r, most), Day: r.IntN(7), Goods: 1 + r.IntN(3), Cellar: pickCellar(r)}
	m.Steps = []api.Step{{From: 0, Share: r.IntN(1001)}, {From: 1 + r.IntN(3000), Share: r.IntN(1001)}}
	for range r.IntN(4) {
		m.Lots = append(m.Lots, pickLot(r, m.Cellar))
	}
	if e := beadle.Check(m); e != api.OK {
		t.Fatal(m, e)
	}
	return m
}

// markets hands out so many markets, each with notes.
func markets(t *testing.T, many, most, notes int) iter.Seq2[api.Market, []string] {
	return func(yield func(m api.Market, notes []string) bool) {
		r := rand.New(rand.NewPCG(10, uint64(many)))
		for range many {
			m := pickMarket(t, r, most)
			if !yield(m, pickNotes(r, m, notes)) {
				return
			}
		}
	}
}
