package ramp_test

import (
	"slices"
	"strings"
	"testing"

	"shambles/api"
	"shambles/ramp"
)

// roster is the roster of the yard Y of the chapter's examples.
const roster = "yard 5\nramp 0 60 900\nramp 10 40 500\n" +
	"cart 0 40 15 20 800 0 1\ncart 0 60 20 25 400 0 1\ncart 5 60 20 30 300 0\nend 3\n"

// Rows that are right, and the numbers of carts with which a roster ends.
const (
	head = "yard 0\nramp 0 9 9\n"
	one  = "cart 0 9 1 2 3 0\n"
	idle = "cart 1 8 2 2 0\n"
	none = "end 0\n"
	end  = "end 1\n"
)

// P7.4: the example, there and back.
func TestRoster(t *testing.T) {
	if s, e := ramp.Write(yard()); s != roster || e != api.OK {
		t.Errorf("%q %v", s, e)
	}
	if y, row, e := ramp.Read(roster); !same(y, yard()) || row != 0 || e != api.OK {
		t.Error(y, row, e)
	}
}

// P7.4: rosters that are as said.
func TestRight(t *testing.T) {
	r := api.Ramp{Shut: 9, Bears: 9}
	c := api.Cart{Until: 9, Takes: span(1, 2), Grams: 3, Ramps: []int{0}}
	d := api.Cart{From: 1, Until: 8, Takes: span(2, 2)}
	everything := "yard 480\n" + strings.Repeat("ramp 100 480 1000000\n", 3) + strings.Repeat("cart 100 480 100 480 1000000 0 1 2\n", 7) + "end 7\n"
	for _, k := range []struct {
		text string
		y    api.Yard
	}{
		{head + none, api.Yard{Ramps: []api.Ramp{r}}},
		{head + one + end, api.Yard{Ramps: []api.Ramp{r}, Carts: []api.Cart{c}}},
		{head + idle + one + "end 2\n", api.Yard{Ramps: []api.Ramp{r}, Carts: []api.Cart{d, c}}},
		{"yard 480\nramp 0 0 0\n" + none, api.Yard{Ramps: make([]api.Ramp, 1), Sweep: 480}},
		{"yard 7\nramp 0 9 9\nramp 0 9 9\nramp 0 9 9\ncart 0 9 1 2 3 0 1 2\ncart 0 9 1 2 3 2\n" + "end 2\n", api.Yard{
			Ramps: []api.Ramp{r, r, r},
			Carts: []api.Cart{
				{Until: 9, Takes: span(1, 2), Grams: 3, Ramps: []int{0, 1, 2}},
				{Until: 9, Takes: span(1, 2), Grams: 3, Ramps: []int{2}},
			},
			Sweep: 7,
		}},
		{everything, full()},
	} {
		if y, row, e := ramp.Read(k.text); !same(y, k.y) || row != 0 || e != api.OK {
			t.Errorf("%q: %v %d %v", k.text, y, row, e)
		}
		if s, e := ramp.Write(k.y); s != k.text || e != api.OK {
			t.Errorf("%q: %q %v", k.text, s, e)
		}
	}
}

// wrong holds that in each text just this row is the first one that is not as said.
func wrong(t *testing.T, row int, texts ...string) {
	t.Helper()
	for _, text := range texts {
		if y, got, e := ramp.Read(text); got != row || e != api.ErrForm || !empty(y) {
			t.Errorf("%q: %v %d %v", text, y, got, e)
		}
	}
}

// P7.4: rows come in their order, and there is an end, behind which nothing comes.
func TestRowOrder(t *testing.T) {
	wrong(t, 1, "", "\n", "x", "yard 0", "end 0\n", one+end, "ramp 0 9 9\n"+none, "\n"+head+none)
	wrong(t, 2, "yard 0\n", "yard 0\n\n", "yard 0\nx\n", "yard 0\nyard 0\n", "yard 0\nramp 0 9 9", "yard 0\nend 1\n", "yard 0\n"+head+none)
	wrong(t, 3, head, head+"\n", head+end, head+"end 0", head+"end 0\r\n", head+strings.TrimSuffix(one, "\n"), head+"yard 0\n"+none, head+head, "yard 0\n"+one+head+end, "yard 0\nend 0\n"+none, "yard 0\nend 0\nramp 0 9 9\n")
	wrong(t, 4, head+one, head+one+none, head+one+"end 2\n", head+one+"end 1", head+one+"ramp 0 9 9\n"+end, head+one+"yard 0\n"+end, head+none+none, head+none+"\n", head+none+" ", head+none+"x", head+none+one, head+none+head)
	wrong(t, 5, head+one+idle, head+one+idle+end, head+one+idle+"end 3\n", head+one+idle+"ramp 0 9 9\nend 2\n", head+one+end+end, head+one+end+"x", head+one+end+idle)
}

// P7.4: each way in which the words of a row are not as said.
func TestWords(t *testing.T) {
	for _, row := range []string{
		"yard", "yard ", "yard 1 2", "yard 1 ", " yard 1", "yard  1", "yard\t1", "Yard 1", "yards 1", "yar 1", "1", "", " ",
		"yard 01", "yard 00", "yard -1", "yard -0", "yard +1", "yard -", "yard x", "yard 1x", "yard 1.0", "yard 1\r",
		"yard 12345678", "yard 00000001", "yard 99999999999999999999", "yard \u0661",
	} {
		wrong(t, 1, row+"\nramp 0 9 9\n"+none)
	}
	for _, row := range []string{
		"ramp", "ramp 0", "ramp 0 9", "ramp 0 9 9 9", "ramp 0 9 9 ", "ramp 0  9 9", " ramp 0 9 9", "Ramp 0 9 9", "ramps 0 9 9", "ram 0 9 9",
		"ramp 00 9 9", "ramp 0 09 9", "ramp 0 9 09", "ramp -1 9 9", "ramp 0 -9 9", "ramp 0 9 -9", "ramp 0 9 +9", "ramp 0 9 12345678", "ramp 0 x 9",
		"cart", "cart 0", "cart 0 9 1 2", "cart 0 9 1 2 ", "cart 0 9 1 2 3 ", "cart 0 9 1 2 3  0", "cart 0 9 1 2 3 0 ", " cart 0 9 1 2 3", "Cart 0 9 1 2 3", "carts 0 9 1 2 3", "car 0 9 1 2 3",
		"cart 00 9 1 2 3", "cart 0 9 1 2 03", "cart 0 9 1 2 3 00", "cart 0 9 1 2 3 -0", "cart 0 9 1 2 3 -1", "cart -1 9 1 2 3 0", "cart 0 9 1 2 12345678 0", "cart 0 9 1 2 3 12345678", "cart 0 9 1 2 3 x", "cart 0 9 1 2 3 0,1",
		"end", "end ", "end 0 0", "end 00", "end -0", "end +0", "end -1", "end x", "ends 0", "End 0", "end  0", "end 12345678", "start 0",
	} {
		wrong(t, 3, head+row+"\n"+one+end)
	}
}

// P7.4: what is as said has the errors of its yard; a text that is too long is not looked at.
func TestReadErrors(t *testing.T) {
	for _, k := range []struct {
		text string
		row  int
		e    api.Errno
	}{
		{"yard 0\n" + none, 0, api.ErrShort},
		{"yard 0\n" + one + end, 0, api.ErrShort},
		{"yard 9999999\nramp 0 9 9\n" + none, 0, api.ErrRange},
		{"yard 481\n" + none, 0, api.ErrShort},
		{"yard 481\nramp 0 9 9\n" + none, 0, api.ErrRange},
		{"yard 0\n" + strings.Repeat("ramp 0 9 9\n", 4) + none, 0, api.ErrFull},
		{"yard 0\nramp 9 0 9\n" + none, 0, api.ErrOrder},
		{"yard 0\nramp 0 9 1000001\n" + none, 0, api.ErrRange},
		{head + strings.Repeat(one, 8) + "end 8\n", 0, api.ErrFull},
		{head + "cart 9 0 1 2 3 0\n" + end, 0, api.ErrOrder},
		{head + "cart 0 9 0 2 3 0\n" + end, 0, api.ErrRange},
		{head + "cart 0 9 2 1 3 0\n" + end, 0, api.ErrOrder},
		{head + "cart 0 9 1 2 9999999 0\n" + end, 0, api.ErrRange},
		{head + "cart 0 9 1 2 3 1\n" + end, 0, api.ErrMissing},
		{head + "cart 0 9 1 2 3 0 0\n" + end, 0, api.ErrOrder},
		{head + "cart 0 9 1 2 3 0 0 0 0 0 0 0 0\n" + end, 0, api.ErrOrder},
		{head + "cart 0 9 2 1 3 0\n" + none, 4, api.ErrForm},
		{strings.Repeat("x", 1500), 1, api.ErrForm},
		{strings.Repeat("x", 1501), 0, api.ErrLong},
		{roster + strings.Repeat("x", 1500), 0, api.ErrLong},
		{"yard 0\n" + strings.Repeat("ramp 10 40 500\n", 99) + "end 000\n", 101, api.ErrForm},
		{"yard 00\n" + strings.Repeat("ramp 0 9 9\n", 135) + none, 1, api.ErrForm},
		{"yard 0\n" + strings.Repeat("ramp 0 9 9\n", 135) + "end 00\n", 137, api.ErrForm},
		{"yard 11\n" + strings.Repeat("ramp 0 9 9\n", 135) + "end 0\n", 0, api.ErrFull},
		{"yard 111\n" + strings.Repeat("ramp 0 9 9\n", 135) + "end 0\n", 0, api.ErrFull},
		{"yard 1111\n" + strings.Repeat("ramp 0 9 9\n", 135) + "end 0\n", 0, api.ErrLong},
	} {
		if y, row, e := ramp.Read(k.text); row != k.row || e != k.e || !empty(y) {
			t.Errorf("%.60q (%d bytes): %v %d %v", k.text, len(k.text), y, row, e)
		}
	}
}

// P7.4, P7.13: a roster is read from its yard.
func TestThereAndBack(t *testing.T) {
	there := func(y api.Yard) {
		t.Helper()
		s, e := ramp.Write(y)
		if e != api.OK || len(s) > 1500 {
			t.Fatal(y, e)
		}
		if again, row, e := ramp.Read(s); !same(again, y) || row != 0 || e != api.OK {
			t.Fatal(y, again, row, e)
		}
	}
	there(full())
	for y := range yards(2000, size{3, 7, 480, 480}) {
		there(y)
	}
}

// P7.13: what is read is written as it was, whatever bytes of a roster are others, or are left out.
func TestBackAndThere(t *testing.T) {
	read := 0
	for i := range roster {
		for _, bytes := range slices.Concat([]string{""}, strings.Split("0 1 2 3 9 - + x s", " "), []string{" ", "\n", "\r", "\x00"}) {
			for _, text := range []string{roster[:i] + bytes, roster[:i] + bytes + roster[i:], roster[:i] + bytes + roster[i+1:]} {
				y, row, e := ramp.Read(text)
				if e != api.OK {
					if !empty(y) || row > 0 && e != api.ErrForm {
						t.Fatalf("%q: %v %d %v", text, y, row, e)
					}
					continue
				}
				read++
				if s, f := ramp.Write(y); s != text || f != api.OK || row != 0 {
					t.Fatalf("%q: %q %d %v", text, s, row, f)
				}
			}
		}
	}
	if read < len(roster)/2 {
		t.Error("few rosters were read:", read)
	}
}
