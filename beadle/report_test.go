package beadle_test

import (
	"fmt"
	"slices"
	"strings"
	"testing"

	"shambles/api"
)

// P10.3: the example, and rows of each kind.
func TestReport(t *testing.T) {
	late := changed(func(m *api.Market) {
		m.Goods = 2
		m.Lots = []api.Lot{{Born: 1, Keeps: 0}, {Born: 0, Keeps: 52, Stays: m.Lots[0].Stays}, {Born: 23, Keeps: 0}}
	})
	three := changed(letWith(func(l *api.Letting) { l.Applicants = l.Applicants[:3] }))
	for i, c := range []struct {
		m           api.Market
		notes, rows string
	}{
		{market(), "let", "minute 0; stall 0 3 0 0; stall 1 1 0 0; stall 2 2 0 0; good 0 never 0 0; lot 0 sure; end 0"},
		{market(), "", "minute 0; stall 0 - 0 0; stall 1 - 0 0; stall 2 - 0 0; good 0 never 0 0; lot 0 sure; end 0"},
		{market(), "let; swap; at 540; sold 2 0 2000 4000 1000 1000; nothing", "minute 540; stall 0 2 0 0; stall 1 1 0 0; stall 2 3 200 400; good 0 sure 1000 1000; lot 0 never; end 1"},
		{market(), "let; sold 2 0 2000 4000 1000 1200; sold 0 0 0 9 1 1; found 0 3000 1100; found 1 0 1", "minute 0; stall 0 3 0 0; stall 1 1 0 0; stall 2 2 330 330; good 0 sure 1100 1100; lot 0 sure; end 2"},
		{market(), "serve 0; at 1439", "minute 1439; stall 0 - 0 0; stall 1 - 0 0; stall 2 - 0 0; good 0 never 0 0; lot 0 served; end 0"},
		{three, "let; swap; sold 0 0 1 0 1 1; sold 1 0 0 2 7 9", "minute 0; stall 0 2 0 0; stall 1 1 0 0; stall 2 - 0 0; good 0 open 7 9; lot 0 sure; end 1"},
		{late, "serve 0; serve 1", "minute 0; stall 0 - 0 0; stall 1 - 0 0; stall 2 - 0 0; good 0 never 0 0; good 1 never 0 0; lot 0 error 12; lot 1 served; lot 2 error 12; end 0"},
		{late, "at 480; serve 2; serve 1; serve 0", "minute 480; stall 0 - 0 0; stall 1 - 0 0; stall 2 - 0 0; good 0 never 0 0; good 1 never 0 0; lot 0 never; lot 1 open; lot 2 error 12; end 0"},
		{late, "at 60; serve 0; at 1380; serve 2", "minute 1380; stall 0 - 0 0; stall 1 - 0 0; stall 2 - 0 0; good 0 never 0 0; good 1 never 0 0; lot 0 served; lot 1 never; lot 2 served; end 0"},
		{changed(func(m *api.Market) { m.Lots = nil }), "let; sold 0 0 0 0 5 5", "minute 0; stall 0 3 0 0; stall 1 1 0 0; stall 2 2 0 0; good 0 never 0 0; end 1"},
	} {
		var notes []string
		if c.notes != "" {
			notes = list(c.notes)
		}
		if rows := reported(t, c.m, notes...); !slices.Equal(rows, list(c.rows)) {
			t.Errorf("%d: %q", i, rows)
		}
	}
}

// P10.3, P10.10: a report tells what the notes holders, due, price and fresh would be replied.
func TestReportTells(t *testing.T) {
	kinds := map[string]int{}
	for m, notes := range markets(t, 400, 4, 40) {
		questions := []string{"holders"}
		for s := range m.Letting.Stalls {
			questions = append(questions, fmt.Sprint("due ", s))
		}
		for g := range m.Goods {
			questions = append(questions, fmt.Sprint("price ", g))
		}
		for lot := range m.Lots {
			questions = append(questions, fmt.Sprint("fresh ", lot))
		}
		replies := replied(t, m, slices.Concat(notes, questions)...)[len(notes):]
		holders := strings.Fields(replies[0])
		if refused(replies[0]) {
			holders = slices.Repeat([]string{"-"}, len(m.Letting.Stalls))
		}
		d := kept(t, m, notes...)
		want := []string{fmt.Sprint("minute ", d.Minute)}
		for i, question := range questions[1:] {
			word, number, _ := strings.Cut(question, " ")
			reply := replies[1+i]
			switch word {
			case "due":
				want = append(want, "stall "+number+" "+holders[i]+" "+reply)
			case "price":
				want = append(want, "good "+number+" "+reply)
			case "fresh":
				if slices.Contains(d.Served, i-len(m.Letting.Stalls)-m.Goods) {
					reply = "served"
				}
				want = append(want, "lot "+number+" "+reply)
			}
			kinds[word+strings.Trim(reply, " 0123456789")]++
		}
		want = append(want, fmt.Sprint("end ", len(d.Sales)))
		if rows := reported(t, m, notes...); !slices.Equal(rows, want) {
			t.Fatal(m, notes, rows, want)
		}
	}
	for _, kind := range []string{"due", "pricesure", "pricenever", "priceopen", "freshsure", "freshnever", "freshopen", "fresherror", "freshserved"} {
		if kinds[kind] < 20 {
			t.Error("few of", kind, kinds)
		}
	}
}
