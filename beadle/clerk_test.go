package beadle_test

import (
	"fmt"
	"math/rand/v2"
	"regexp"
	"slices"
	"strings"

	"shambles/api"
	"shambles/cold"
	"shambles/price"
	"shambles/stall"
	"shambles/swap"
)

// wrong are notes that are not as said.
var wrong = []string{
	"", " ", "let ", " let", "let  ", "Let", "LET", "let 0", "lets", "le", "let\r", "let\t", "let\x00", "letlet", "let let",
	"swap 1", "holders 0", "envies -", "seal 0", "seal  0", "ok", "error 2", "end", "minute 0", "stall 0", "5", "0 at", "at0", "5at", "at5",
	"at", "at ", "at -", "at 05", "at 00", "at 000000", "at 0000000", "at +5", "at -5", "at -0", "at 5 ", "at  5", " at 5", "at 5 5", "at 1234567", "at 1000000", "at 99999999999999999999",
	"at N", "at ?", "at x", "at 1x", "at x1", "at 1_0", "at 0x1", "at 1e1", "at 1.0", "at 1,0", "at ５", "at ٣", "at 5\r", "at\t5", "at\u00a05", "at 5\xff", "\xff", "\ufffd", "ät 5", "at 5N",
	"ice", "ice 00", "ice 0 0", "fresh", "fresh -1", "fresh 0 0", "serve", "serve x", "serve 0 0", "price", "price 0 0", "price 1000000", "due", "due -1", "due 0 0", "due 00",
	"found", "found 0", "found 0 1", "found 0 1 1 1", "found 0 01 1", "found 0 1 1 ", "found  0 1 1", "found 0 1 -1",
	"sold", "sold 0 0 1 1 1", "sold 0 0 1 1 1 1 1", "sold 0 0 1 1 1 ", "sold 0 0 1  1 1", "sold 0 0 1 1 1 01", "sold 0 0 1 1 1 1000000", "sold -1 0 1 1 1 1", "sold 0 0 1..1 1 1",
}

// forms are the forms of notes: of each word with as many numbers as it needs.
var forms = []*regexp.Regexp{
	regexp.MustCompile(`^(let|swap|holders|envies|seal)$`),
	regexp.MustCompile(`^(at|ice|fresh|serve|price|due)( (0|[1-9][0-9]{0,5}))$`),
	regexp.MustCompile(`^(found)( (0|[1-9][0-9]{0,5})){3}$`),
	regexp.MustCompile(`^(sold)( (0|[1-9][0-9]{0,5})){6}$`),
}

// clerk does notes just as the table of the chapter has it.
type clerk struct {
	m api.Market
	d api.Desk
}

func errorText(e api.Errno) string { return fmt.Sprintf("error %d", int(e)) }

// do returns the reply to a note.
func (c *clerk) do(note string) string {
	matches := func(form *regexp.Regexp) bool { return form.MatchString(note) }
	if !slices.ContainsFunc(forms, matches) {
		return errorText(api.ErrForm)
	}
	var word string
	var n [6]int
	fmt.Sscan(note, &word, &n[0], &n[1], &n[2], &n[3], &n[4], &n[5])
	switch word {
	case "let", "swap", "holders", "envies":
		return c.ofStalls(word)
	case "ice", "fresh", "serve":
		return c.ofLots(word, n[0])
	case "sold":
		return c.sold(n)
	case "at":
		if n[0] < c.d.Minute || n[0] > 1439 {
			return errorText(api.ErrRange)
		}
		c.d.Minute = n[0]
		return "ok"
	case "found":
		finds := append(slices.Clone(c.d.Finds), api.Found{Sale: n[0], Grams: n[1], Cents: n[2]})
		if _, e := price.Audited(c.book(), finds); e != api.OK {
			return errorText(e)
		}
		c.d.Finds = finds
		return "ok"
	}
	return c.ofMoney(word, n[0])
}

func (c *clerk) ofStalls(word string) string {
	l := c.m.Letting
	if (word == "let") != (len(c.d.Holders) == 0) {
		return errorText(api.ErrState)
	}
	switch word {
	case "let":
		c.d.Holders, _ = stall.Let(l)
	case "swap":
		trade, applicants, _ := swap.From(l, c.d.Holders, c.m.Day)
		after, _ := swap.Swap(trade)
		for s := range c.d.Holders {
			c.d.Holders[s] = nobody
			if i := slices.Index(after, api.Turn{Stall: s, Day: c.m.Day}); i >= 0 {
				c.d.Holders[s] = applicants[i]
			}
		}
	case "envies":
		envies, _ := stall.Envies(l, c.d.Holders)
		if len(envies) == 0 {
			return "none"
		}
		return strings.Trim(strings.NewReplacer("} {", " ", "{", "", "}", "").Replace(fmt.Sprint(envies)), "[]")
	}
	return strings.ReplaceAll(strings.Trim(fmt.Sprint(c.d.Holders), "[]"), "-1", "-")
}

func (c *clerk) ofLots(word string, n int) string {
	hour := c.d.Minute / 60
	if word == "ice" {
		ice, e := cold.Ice(c.m.Cellar, n, hour)
		if e != api.OK {
			return errorText(e)
		}
		return fmt.Sprint(ice.Lo, ice.Hi)
	}
	if n >= len(c.m.Lots) {
		return errorText(api.ErrMissing)
	}
	if word == "serve" && slices.Contains(c.d.Served, n) {
		return errorText(api.ErrExists)
	}
	verdict, e := cold.Fresh(c.m.Cellar, c.m.Lots[n], hour)
	switch {
	case e != api.OK:
		return errorText(e)
	case word == "fresh":
		return verdictText(verdict)
	case verdict != api.Sure:
		return errorText(api.ErrLate)
	}
	c.d.Served = append(c.d.Served, n)
	return "ok"
}

func verdictText(verdict int) string {
	return map[int]string{api.Sure: "sure", api.Never: "never", api.Open: "open"}[verdict]
}

func (c *clerk) sold(n [6]int) string {
	if n[0] >= len(c.m.Letting.Stalls) {
		return errorText(api.ErrMissing)
	}
	if c.holder(n[0]) == "-" {
		return errorText(api.ErrState)
	}
	b := c.book()
	b.Sales = append(slices.Clone(b.Sales), api.Sale{Stall: n[0], Good: n[1], Grams: span(n[2], n[3]), Cents: span(n[4], n[5])})
	if e := price.Check(b); e != api.OK {
		return errorText(e)
	}
	c.d.Sales = b.Sales
	return "ok"
}

func (c *clerk) ofMoney(word string, n int) string {
	if word == "seal" {
		seal, _ := price.Seal(c.book())
		return fmt.Sprint(seal)
	}
	audited, _ := price.Audited(c.book(), c.d.Finds)
	if word == "price" {
		verdict, cents, e := price.Price(audited, n)
		if e != api.OK {
			return errorText(e)
		}
		return fmt.Sprint(verdictText(verdict), " ", cents.Lo, " ", cents.Hi)
	}
	dues, _ := price.Dues(audited, c.m.Steps)
	if n >= len(dues) {
		return errorText(api.ErrMissing)
	}
	return fmt.Sprint(dues[n].Lo, dues[n].Hi)
}

func (c *clerk) book() api.Book {
	return api.Book{Stalls: len(c.m.Letting.Stalls), Goods: c.m.Goods, Sales: c.d.Sales}
}

// holder is the word of the holder of a stall.
func (c *clerk) holder(s int) string {
	if len(c.d.Holders) == 0 || c.d.Holders[s] == nobody {
		return "-"
	}
	return fmt.Sprint(c.d.Holders[s])
}

// report returns the rows about the desk.
func (c *clerk) report() []string {
	rows := []string{fmt.Sprint("minute ", c.d.Minute)}
	for s := range c.m.Letting.Stalls {
		rows = append(rows, fmt.Sprintf("stall %d %s %s", s, c.holder(s), c.ofMoney("due", s)))
	}
	for g := range c.m.Goods {
		rows = append(rows, fmt.Sprintf("good %d %s", g, c.ofMoney("price", g)))
	}
	for lot := range c.m.Lots {
		fresh := c.ofLots("fresh", lot)
		if slices.Contains(c.d.Served, lot) {
			fresh = "served"
		}
		rows = append(rows, fmt.Sprintf("lot %d %s", lot, fresh))
	}
	return append(rows, fmt.Sprint("end ", len(c.d.Sales)))
}

// pickNotes returns so many notes for a market; most of them are taken.
func pickNotes(r *rand.Rand, m api.Market, many int) []string {
	var notes []string
	minute := 0
	for range many {
		switch {
		case r.IntN(4) == 0:
			minute += r.IntN(1440 / (1 + many/5))
			notes = append(notes, fmt.Sprint("at ", max(0, minute-r.IntN(2)*r.IntN(40))))
		case r.IntN(25) == 0:
			notes = append(notes, wrong[r.IntN(len(wrong))])
		default:
			notes = append(notes, pickNote(r, m))
		}
	}
	if r.IntN(8) > 0 {
		notes[r.IntN(1+many/10)] = "let"
	}
	return notes
}

// pickNote returns a note for a market; now and then it names what there is not.
func pickNote(r *rand.Rand, m api.Market) string {
	stall, good := r.IntN(len(m.Letting.Stalls)), r.IntN(m.Goods)
	if r.IntN(12) == 0 {
		stall, good = stall+r.IntN(2), good+r.IntN(2)
	}
	box, lot := r.IntN(len(m.Cellar.Boxes)+1), r.IntN(len(m.Lots)+1)
	switch r.IntN(18) {
	case 0:
		return []string{"let", "holders", "envies", "seal"}[r.IntN(4)]
	case 1:
		return "swap"
	case 2:
		return fmt.Sprint("ice ", box)
	case 3:
		return fmt.Sprint("fresh ", lot)
	case 4, 5:
		return fmt.Sprint("serve ", lot)
	case 6, 7:
		return fmt.Sprint("price ", good)
	case 8:
		return fmt.Sprint("due ", stall)
	case 9, 10, 11, 12:
		return fmt.Sprintf("found %d %d %d", r.IntN(5), 1000*r.IntN(4), 500*r.IntN(4))
	}
	grams, cents := pickSpan(r, 0, 3), pickSpan(r, 0, 3)
	if r.IntN(10) == 0 {
		grams.Lo, cents.Hi = r.IntN(4), r.IntN(300)
	}
	return fmt.Sprintf("sold %d %d %d %d %d %d", stall, good, 1000*grams.Lo, 1000*grams.Hi, 500*cents.Lo, 500*cents.Hi)
}
