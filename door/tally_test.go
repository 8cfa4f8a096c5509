package door_test

import (
	"slices"
	"strings"
	"testing"

	"shambles/api"
	"shambles/door"
)

// tally is the tally of the house H.
const tally = "house 10 15 3\nhall 100\nhall 50\ndoor 0 -1 20\ndoor 0 1 10\ndoor 1 -1 5\n" +
	"count 0 0 20 25 0 5\ncount 1 0 5 5 10 20\ncount 2 2 0 0 30 30\nend 3\n"

// Rows that are right.
const (
	head = "house 0 9 1\n"
	hall = "hall 5\n"
	way  = "door 0 -1 3\n"
	went = "count 0 0 1 2 0 1\n"
	none = "end 0\n"
	end  = "end 1\n"
)

// P9.5: the example, there and back.
func TestTally(t *testing.T) {
	if s, e := door.Write(house()); s != tally || e != api.OK {
		t.Errorf("%q %v", s, e)
	}
	if h, row, e := door.Read(tally); !same(h, house()) || row != 0 || e != api.OK {
		t.Error(h, row, e)
	}
}

// P9.5: tallies that are as said.
func TestRight(t *testing.T) {
	one := api.House{Holds: []int{5}, First: span(0, 9), Ticks: 1}
	led := api.House{Holds: []int{5}, Doors: []api.Door{{A: 0, B: -1, Flow: 3}}, First: span(0, 9), Ticks: 1}
	gone := counted(led, []api.Count{{In: span(1, 2), Out: span(0, 1)}})
	everything := "house 10000 10000 12\n" + strings.Repeat("hall 10000\n", 4)
	for _, hall := range strings.Fields("0 1 2 3") {
		everything += "door " + hall + " -1 10000\n"
	}
	everything += "door -1 3 10000\n"
	for _, tick := range strings.Fields("0 1 2 3 4 5 6 7 8 9 10 11") {
		everything += "count " + tick + " 3 10000 10000 10000 10000\ncount " + tick + " 4 10000 10000 10000 10000\n"
	}
	for _, k := range []struct {
		text string
		h    api.House
	}{
		{head + hall + none, one},
		{head + hall + way + none, led},
		{head + hall + way + went + end, gone},
		{"house 0 0 0\nhall 0\nend 0\n", api.House{Holds: []int{0}}},
		{everything + "end 24\n", full()},
	} {
		if h, row, e := door.Read(k.text); !same(h, k.h) || row != 0 || e != api.OK {
			t.Errorf("%q: %v %d %v", k.text, h, row, e)
		}
		if s, e := door.Write(k.h); s != k.text || e != api.OK {
			t.Errorf("%q: %q %v", k.text, s, e)
		}
	}
}

// wrong holds that in each text just this row is the first one that is not as said.
func wrong(t *testing.T, row int, texts ...string) {
	t.Helper()
	for _, text := range texts {
		if h, got, e := door.Read(text); got != row || e != api.ErrForm || !empty(h) {
			t.Errorf("%q: %v %d %v", text, h, got, e)
		}
	}
}

// P9.5: rows come in their order, and there is an end, behind which nothing stands.
func TestRowOrder(t *testing.T) {
	wrong(t, 1, "", "\n", "x", "house 0 9 1", hall, way, went, none, hall+head+none, "\n"+head+hall+none)
	wrong(t, 2, head, head+"\n", head+"x\n", head+head, head+head+hall+none, head+end, head+"hall 5", head+"end 0", head+"end 0\r\n")
	wrong(t, 3, head+hall, head+hall+"\n", head+hall+head, head+hall+head+none, head+hall+end, head+hall+"end 0", head+hall+"door 0 -1 3", head+none+none, head+none+"\n", head+none+hall, head+none+" ", head+none+"x", head+way+hall+none, head+went+hall+none, head+went+way+end)
	wrong(t, 4, head+hall+way, head+hall+way+hall, head+hall+way+hall+none, head+hall+way+head+none, head+hall+way+end, head+hall+none+"x", head+hall+none+way, head+hall+went+way+end, head+hall+went+hall+end)
	wrong(t, 5, head+hall+way+went, head+hall+way+went+none, head+hall+way+went+"end 2\n", head+hall+way+went+way+end, head+hall+way+went+hall+end, head+hall+way+went+head+end, head+hall+way+went+"end 1", head+hall+way+none+none)
	wrong(t, 6, head+hall+way+went+went, head+hall+way+went+went+end, head+hall+way+went+end+end, head+hall+way+went+end+"\n", head+hall+way+went+end+"house")
}

// P9.5: each way in which the words of a row are not as said.
func TestWords(t *testing.T) {
	for _, row := range []string{
		"house", "house ", "house 0", "house 0 9", "house 0 9 ", "house 0 9 1 ", "house 0 9 1 1", " house 0 9 1", "house  0 9 1", "house 0 9  1", "house\t0 9 1", "House 0 9 1", "houses 0 9 1", "hous 0 9 1", "0 9 1", "", " ",
		"house 00 9 1", "house 0 09 1", "house 0 9 01", "house -0 9 1", "house 0 9 -0", "house 0 9 -01", "house +0 9 1", "house 0 9 -", "house 0 9 --1", "house x 9 1", "house 0 9 1x", "house 0 9 1.0", "house 0 9 1\r",
		"house 1234567 9 1", "house 0 -1234567 1", "house 0 9 0000001", "house 0 9 99999999999999999999", "house 0 9 \u0661",
	} {
		wrong(t, 1, row+"\n"+hall+none)
	}
	for _, row := range []string{
		"hall", "hall ", "hall 5 ", "hall 5 5", " hall 5", "hall  5", "Hall 5", "halls 5", "hal 5", "5", "hall 05", "hall -0", "hall +5", "hall x", "hall 1234567",
		"door", "door 0 -1", "door 0 -1 3 ", "door 0 -1 3 4", " door 0 -1 3", "door  0 -1 3", "door 0 - 1 3", "door 0 - 3", "door 0 -01 3", "Door 0 -1 3", "doors 0 -1 3", "doo 0 -1 3", "door 00 -1 3", "door 0 -1 03", "door 0 -1 +3", "door 0 -1 x",
		"count", "count 0 0 1 2 0", "count 0 0 1 2 0 ", "count 0 0 1 2 0 1 ", "count 0 0 1 2 0 1 2", " count 0 0 1 2 0 1", "count  0 0 1 2 0 1", "Count 0 0 1 2 0 1", "counts 0 0 1 2 0 1", "coun 0 0 1 2 0 1", "count 0 0 1 2 0 01", "count 0 0 1 2 -0 1", "count 0 0 1..2 0 1", "count 00 0 1 2 0 1",
		"end", "end ", "end 0 ", "end 0 0", "end 00", "end -0", "end +0", "end x", "end -1", "end 1", "End 0", "ends 0", "en 0", "end  0", "end 0\r",
	} {
		wrong(t, 3, head+hall+row+"\n"+none, head+hall+row+"\n"+way+went+end)
	}
}

// P9.5: what is as said has the errors of its house; a text that is too long is not looked at.
func TestReadErrors(t *testing.T) {
	many := func(rows int, row, end string) string { return head + hall + strings.Repeat(row, rows) + end }
	for _, k := range []struct {
		text string
		row  int
		e    api.Errno
	}{
		{head + none, 0, api.ErrShort},
		{head + way + none, 0, api.ErrShort},
		{head + strings.Repeat(hall, 5) + none, 0, api.ErrFull},
		{head + "hall -1\n" + none, 0, api.ErrRange},
		{head + "hall 999999\n" + none, 0, api.ErrRange},
		{head + "hall -999999\n" + none, 0, api.ErrRange},
		{"house -1 9 1\n" + hall + none, 0, api.ErrRange},
		{"house 9 0 1\n" + hall + none, 0, api.ErrOrder},
		{"house 0 9 13\n" + hall + none, 0, api.ErrRange},
		{"house 0 9 -1\n" + hall + none, 0, api.ErrRange},
		{"house 0 9 123456\n" + hall + none, 0, api.ErrRange},
		{many(6, way, none), 0, api.ErrFull},
		{head + hall + "door 0 1 3\n" + none, 0, api.ErrMissing},
		{head + hall + "door 0 -2 3\n" + none, 0, api.ErrMissing},
		{head + hall + "door 0 0 3\n" + none, 0, api.ErrForm},
		{head + hall + "door 0 -1 -3\n" + none, 0, api.ErrRange},
		{head + hall + way + went + went + "end 2\n", 0, api.ErrExists},
		{head + hall + way + "count 1 0 1 2 0 1\n" + end, 0, api.ErrRange},
		{head + hall + way + "count 0 1 1 2 0 1\n" + end, 0, api.ErrMissing},
		{head + hall + way + "count 0 0 2 1 0 1\n" + end, 0, api.ErrOrder},
		{head + hall + way + "count 0 0 1 2 0 -1\n" + end, 0, api.ErrRange},
		{head + hall + "hall 5\ndoor 0 1 3\n" + went + end, 0, api.ErrKind},
		{head + hall + went + end, 0, api.ErrMissing},
		// The house may not be, but its tally is read.
		{head + hall + way + "count 0 0 0 0 10 10\n" + end, 0, api.OK},
		{many(25, went, "end 25\n"), 0, api.ErrFull},
		{many(25, went, "end 24\n"), 28, api.ErrForm},
		{many(109, went, "end 109\n"), 0, api.ErrFull},
		{many(109, went, "end 109\nx"), 113, api.ErrForm},
		{many(109, went, "end 109\nxxxxxxxxxxx"), 113, api.ErrForm},
		{many(109, went, "end 109\nxxxxxxxxxxxx"), 0, api.ErrLong},
		{many(110, went, "end 110\n"), 0, api.ErrLong},
		{strings.Repeat("x", 2000), 1, api.ErrForm},
		{strings.Repeat("x", 2001), 0, api.ErrLong},
		{tally + strings.Repeat("x", 2000), 0, api.ErrLong},
	} {
		if h, row, e := door.Read(k.text); row != k.row || e != k.e || (e != api.OK) != empty(h) {
			t.Errorf("%.60q (%d bytes): %v %d %v", k.text, len(k.text), h, row, e)
		}
	}
}

// P9.5, P9.14: a tally is read from its house.
func TestThereAndBack(t *testing.T) {
	there := func(h api.House) {
		t.Helper()
		s, e := door.Write(h)
		if e != api.OK || len(s) > 2000 {
			t.Fatal(h, e)
		}
		if again, row, e := door.Read(s); !same(again, h) || row != 0 || e != api.OK {
			t.Fatal(h, again, row, e)
		}
	}
	there(full())
	for _, s := range []size{small, great} {
		for h := range houses(1000, s) {
			there(h)
		}
	}
}

// P9.14: what is read is written as it was, whatever bytes of a tally are others, or are left out.
func TestBackAndThere(t *testing.T) {
	read := 0
	for i := range tally {
		for _, bytes := range slices.Concat([]string{""}, strings.Split("0 1 2 3 9 - + x s", " "), []string{" ", "\n", "\r", "\x00"}) {
			for _, text := range []string{tally[:i] + bytes, tally[:i] + bytes + tally[i:], tally[:i] + bytes + tally[i+1:]} {
				h, row, e := door.Read(text)
				if e != api.OK {
					if !empty(h) || row > 0 && e != api.ErrForm {
						t.Fatalf("%q: %v %d %v", text, h, row, e)
					}
					continue
				}
				read++
				if s, f := door.Write(h); s != text || f != api.OK || row != 0 {
					t.Fatalf("%q: %q %d %v", text, s, row, f)
				}
			}
		}
	}
	if read < len(tally)/2 {
		t.Error("few tallies were read:", read)
	}
}
