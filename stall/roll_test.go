package stall_test

import (
	"math/rand/v2"
	"slices"
	"strings"
	"testing"

	"shambles/api"
	"shambles/stall"
)

// roll is the roll of the letting L of the chapter's examples.
const roll = "stall lot 100 -\nstall years 200 -\nstall bid 300 2\n" +
	"applicant 5 7\nwish 1 0\nwish 0 0\napplicant 9 11\nwish 1 0\nwish 2 500\n" +
	"applicant 2 5\nwish 0 0\nwish 2 300\napplicant 5 4\nwish 2 400\nwish 1 0\nwish 0 0\nend 4\n"

// Rows that are right, and the numbers of applicants with which a roll ends.
const (
	lot  = "stall lot 5 -\n"
	one  = "applicant 1 2\n"
	wish = "wish 0 3\n"
	none = "end 0\n"
	end  = "end 1\n"
)

// P2.3: the example, there and back.
func TestRoll(t *testing.T) {
	if s, e := stall.Write(letting()); s != roll || e != api.OK {
		t.Errorf("%q %v", s, e)
	}
	if l, row, e := stall.Read(roll); !same(l, letting()) || row != 0 || e != api.OK {
		t.Error(l, row, e)
	}
}

// P2.3: rolls that are as said.
func TestRight(t *testing.T) {
	single := api.Stall{Rule: api.LetLot, Least: 5, Heir: nobody}
	for text, want := range map[string]api.Letting{
		lot + none: {Stalls: []api.Stall{single}},
		lot + one + end: {
			Stalls: []api.Stall{single}, Applicants: []api.Applicant{{Years: 1, Token: 2}}},
		"stall bid 1000000 0\n" + one + wish + end: {
			Stalls:     []api.Stall{{Rule: api.LetBid, Least: 1000000, Heir: 0}},
			Applicants: []api.Applicant{{Years: 1, Token: 2, Wishes: []int{0}, Bids: []int{3}}}},
		lot + "stall years 0 1\n" + one + "applicant 60 1000000000\nwish 1 1000000\nend 2\n": {
			Stalls:     []api.Stall{single, {Rule: api.LetYears, Heir: 1}},
			Applicants: []api.Applicant{{Years: 1, Token: 2}, {Years: 60, Token: api.MaxToken, Wishes: []int{1}, Bids: []int{api.MaxBid}}}},
	} {
		if l, row, e := stall.Read(text); !same(l, want) || row != 0 || e != api.OK {
			t.Errorf("%q: %v %d %v", text, l, row, e)
		}
		if s, e := stall.Write(want); s != text || e != api.OK {
			t.Errorf("%q: %q %v", text, s, e)
		}
	}
}

// wrong holds that in each text just this row is the first one that is not as said.
func wrong(t *testing.T, row int, texts ...string) {
	t.Helper()
	for _, text := range texts {
		if l, got, e := stall.Read(text); got != row || e != api.ErrForm || !same(l, api.Letting{}) {
			t.Errorf("%q: %v %d %v", text, l, got, e)
		}
	}
}

// P2.3: rows come in their order, and there is an end, behind which nothing comes.
func TestRowOrder(t *testing.T) {
	wrong(t, 1, "", "\n", wish+lot+none, "x", strings.TrimSuffix(lot, "\n"), "end\n", "end 1\n", "end 0 0\n", "end -\n", "end 00\n", "end -0\n")
	wrong(t, 2, lot, lot+"\n", lot+wish, lot+wish+one+end, lot+"end 0", lot+end, lot+"end 0\r\n", lot+"end 4294967296\n")
	wrong(t, 3, lot+none+"\n", lot+none+" ", lot+none+"x", lot+none+none, lot+none+lot, lot+one+lot+end, lot+one+none, lot+one+"end 2\n", lot+one)
	wrong(t, 4, lot+one+wish, lot+one+wish+lot+end, lot+one+one+end, lot+one+wish+none, lot+one+end+wish)
}

// P2.3: each way in which the words of a row are not as said.
func TestWords(t *testing.T) {
	for _, row := range []string{
		"stall", "stall lot", "stall lot 5", "stall lot 5 - -", "stall lot 5 - ", " stall lot 5 -", "stall  lot 5 -", "stall\tlot 5 -",
		"Stall lot 5 -", "stalls lot 5 -", "stall lots 5 -", "stall Lot 5 -", "stall  5 -", "stall 1 5 -", "stall lo 5 -",
		"stall lot 05 -", "stall lot -5 -", "stall lot +5 -", "stall lot - -", "stall lot five -", "stall lot  -", "stall lot 12345678901 -",
		"stall lot 5 --", "stall lot 5 -1", "stall lot 5 +1", "stall lot 5 01", "stall lot 5 x", "stall lot 5 12345678901", "stall lot 5 -\r",
	} {
		wrong(t, 1, row+"\n"+lot+none)
	}
	for _, row := range []string{
		"applicant", "applicant 1", "applicant 1 2 3", "applicant 1 -2", "applicant 01 2", "applicant 1 02", "applicant 1 +2", "applicant 1 2 ",
		"applicant  1 2", "applicant - 2", "applicant 1 12345678901", "Applicant 1 2", "applicants 1 2", "applicant 1 99999999999999999999",
		"", " ", "heir 1 2", "1 2",
	} {
		wrong(t, 2, lot+row+"\n"+end, lot+row+"\n")
	}
	for _, row := range []string{
		"wish", "wish 0", "wish 0 3 4", "wish 0 -3", "wish -0 3", "wish 00 3", "wish 0 03", "wish 0 3 ", "wish 0  3", "wish - 3",
		"wish 0 12345678901", "wishes 0 3", "Wish 0 3", "wish 0x0 3", "wish 0 3_0",
	} {
		wrong(t, 3, lot+one+row+"\n"+end)
	}
}

// P2.3: what is as said has the errors of its letting; a text that is too long is not looked at.
func TestReadErrors(t *testing.T) {
	for _, c := range []struct {
		text string
		row  int
		e    api.Errno
	}{
		{none, 0, api.ErrShort},
		{one + end, 0, api.ErrShort},
		{strings.Repeat(lot, 9) + none, 0, api.ErrFull},
		{"stall lot 9999999999 -\n" + none, 0, api.ErrRange},
		{"stall lot 5 0\n" + none, 0, api.ErrMissing},
		{"stall lot 5 9999999999\n" + one + end, 0, api.ErrMissing},
		{lot + strings.Repeat(one, 9) + "end 9\n", 0, api.ErrFull},
		{lot + "applicant 61 2\n" + end, 0, api.ErrRange},
		{lot + "applicant 1 1000000001\n" + end, 0, api.ErrRange},
		{lot + one + "wish 1 3\n" + end, 0, api.ErrMissing},
		{lot + one + wish + wish + end, 0, api.ErrExists},
		{lot + one + "wish 0 1000001\n" + end, 0, api.ErrRange},
		{"stall lot 1000001 -\n" + end, 2, api.ErrForm},
		{strings.Repeat("x", 4000), 1, api.ErrForm},
		{strings.Repeat("x", 4001), 0, api.ErrLong},
		{roll + strings.Repeat("x", 4000), 0, api.ErrLong},
		{lot + "applicant 1 2000000\n" + strings.Repeat(wish, 440) + end, 0, api.ErrExists},
		{lot + "applicant 1 20000000\n" + strings.Repeat(wish, 440) + end, 0, api.ErrLong},
	} {
		l, row, e := stall.Read(c.text)
		if row != c.row || e != c.e || !same(l, api.Letting{}) {
			t.Errorf("%.60q (%d bytes): %v %d %v", c.text, len(c.text), l, row, e)
		}
	}
}

// P2.12: a roll is read from its letting.
func TestThereAndBack(t *testing.T) {
	r := rand.New(rand.NewPCG(12, 2))
	all := []api.Letting{letting(), unwished(), full(), crossed()}
	for range 1000 {
		all = append(all, pickLetting(r, 8, 8))
	}
	for _, l := range all {
		s, e := stall.Write(l)
		if e != api.OK || len(s) > api.MaxRoll {
			t.Fatal(l, s, e)
		}
		if again, row, e := stall.Read(s); !same(again, l) || row != 0 || e != api.OK {
			t.Fatal(l, again, row, e)
		}
	}
}

// P2.12: what is read is written as it was, whatever bytes of a roll are others, or are left out.
func TestBackAndThere(t *testing.T) {
	read := 0
	for i := range roll {
		for _, bytes := range slices.Concat([]string{""}, strings.Split("0 1 2 3 9 - + x s", " "), []string{" ", "\n", "\r", "\x00"}) {
			for _, text := range []string{roll[:i] + bytes, roll[:i] + bytes + roll[i:], roll[:i] + bytes + roll[i+1:]} {
				l, row, e := stall.Read(text)
				if e != api.OK {
					if !same(l, api.Letting{}) || row > 0 && e != api.ErrForm {
						t.Fatalf("%q: %v %d %v", text, l, row, e)
					}
					continue
				}
				read++
				if s, f := stall.Write(l); s != text || f != api.OK || row != 0 {
					t.Fatalf("%q: %q %d %v", text, s, row, f)
				}
			}
		}
	}
	if read < len(roll) {
		t.Error("few rolls were read:", read)
	}
}
