package cold_test

import (
	"math/rand/v2"
	"slices"
	"strings"
	"testing"

	"shambles/api"
	"shambles/cold"
)

// journal is the journal of the cellar C and the lot L of the chapter's examples.
const journal = "hall 100 150\nbox 1000 500 600 200 250 -10 10 50 80\nfilling 0 4 300\n" +
	"rate -50 1\nrate 20 5\nrate 100 20\nlot 0 60\nstay 0 0 6\nend 1\n"

// Rows that are right, and the numbers of lots with which a journal ends.
const (
	head    = "hall -5 5\n"
	box     = "box 9 1 2 3 4 -2 -1 0 1\n"
	filling = "filling 0 1 2\n"
	rated   = "rate -3 4\n"
	single  = "lot 5 6\n"
	stay    = "stay 0 5 7\n"
	none    = "end 0\n"
	end     = "end 1\n"
)

// P4.5: the example, there and back.
func TestJournal(t *testing.T) {
	if s, e := cold.Write(cellar(), []api.Lot{lot()}); s != journal || e != api.OK {
		t.Errorf("%q %v", s, e)
	}
	if c, lots, row, e := cold.Read(journal); !same(c, cellar(), lots, []api.Lot{lot()}) || row != 0 || e != api.OK {
		t.Error(c, lots, row, e)
	}
}

// P4.5: journals that are as said.
func TestRight(t *testing.T) {
	bare := api.Cellar{Hall: span(-5, 5), Rates: []api.Rate{{Above: -3, Loss: 4}}}
	boxed := bare
	boxed.Boxes = []api.Box{{Room: 9, Ice: span(1, 2), Melt: span(3, 4), Cold: span(-2, -1), Warm: span(0, 1)}}
	filled := boxed
	filled.Fillings = []api.Filling{{Box: 0, Hour: 1, Grams: 2}}
	one := api.Lot{Born: 5, Keeps: 6}
	kept := api.Lot{Born: 5, Keeps: 6, Stays: []api.Stay{{Box: 0, From: 5, To: 7}}}
	large := api.Lot{Born: 239, Keeps: 100000, Stays: []api.Stay{{From: 239, To: 240}}}
	for _, k := range []struct {
		text string
		c    api.Cellar
		lots []api.Lot
	}{
		{head + rated + none, bare, nil},
		{head + rated + single + end, bare, []api.Lot{one}},
		{head + box + rated + none, boxed, nil},
		{head + box + filling + rated + single + stay + end, filled, []api.Lot{kept}},
		{head + box + rated + single + stay + single + "lot 239 100000\nstay 0 239 240\nend 3\n", boxed, []api.Lot{kept, one, large}},
		{head + box + rated + single + single + stay + "end 2\n", boxed, []api.Lot{one, kept}},
	} {
		if c, lots, row, e := cold.Read(k.text); !same(c, k.c, lots, k.lots) || row != 0 || e != api.OK {
			t.Errorf("%q: %v %v %d %v", k.text, c, lots, row, e)
		}
		if s, e := cold.Write(k.c, k.lots); s != k.text || e != api.OK {
			t.Errorf("%q: %q %v", k.text, s, e)
		}
	}
}

// wrong holds that in each text just this row is the first one that is not as said.
func wrong(t *testing.T, row int, texts ...string) {
	t.Helper()
	for _, text := range texts {
		if c, lots, got, e := cold.Read(text); got != row || e != api.ErrForm || !empty(c, lots) {
			t.Errorf("%q: %v %v %d %v", text, c, lots, got, e)
		}
	}
}

// P4.5: rows come in their order, and there is an end, behind which nothing comes.
func TestRowOrder(t *testing.T) {
	wrong(t, 1, "", "\n", "x", box, filling, rated, single, stay, none, end, rated+head+none, strings.TrimSuffix(head, "\n"), "\n"+head+rated+none)
	wrong(t, 2, head, head+head, head+"\n", head+" \n", head+"x\n", head+stay, head+end, head+strings.TrimSuffix(rated, "\n"))
	wrong(t, 3, head+box, head+box+head, head+filling+box, head+filling+head, head+rated+box, head+rated+filling, head+rated+head, head+rated+stay, head+rated+end, head+rated+"end 0", head+rated+"end 0\r\n")
	wrong(t, 4, head+rated+single, head+rated+single+rated, head+rated+single+box, head+rated+single+filling, head+rated+single+head, head+rated+single+none, head+rated+single+"end 2\n")
	wrong(t, 4, head+rated+none+"\n", head+rated+none+" ", head+rated+none+"x", head+rated+none+none, head+rated+none+single, head+rated+none+rated, head+rated+none+head)
	wrong(t, 5, head+rated+single+stay, head+rated+single+stay+rated, head+rated+single+stay+none, head+rated+single+single+end, head+rated+single+end+stay)
}

// P4.5: each way in which the words of a row are not as said.
func TestWords(t *testing.T) {
	for _, row := range []string{
		"hall", "hall 1", "hall 1 2 3", "hall 1 2 ", " hall 1 2", "hall  1 2", "hall\t1 2", "Hall 1 2", "halls 1 2", "hal 1 2",
		"hall 01 2", "hall 1 02", "hall -0 2", "hall -01 2", "hall +1 2", "hall - 2", "hall --1 2", "hall 1 x", "hall 1 ", "hall 1 2\r",
		"hall 1234567 2", "hall 1 -1234567", "hall 1 0000001", "hall 1.0 2", "hall 1 99999999999999999999",
	} {
		wrong(t, 1, row+"\n"+rated+none)
	}
	for _, row := range []string{
		"box", "box 9 1 2 3 4 5 6 7", "box 9 1 2 3 4 5 6 7 8 9", "box 9 1 2 3 4 -0 6 7 8", "box 09 1 2 3 4 5 6 7 8", "box 9 1 2 3 4 5 6 7 +8", "box 9 1 2 3 4 5 6 7 1234567", "Box 9 1 2 3 4 5 6 7 8",
		"filling", "filling 0 1", "filling 0 1 2 3", "filling 00 1 2", "filling 0  1 2", "filling 0 1 2 ", "filling 0 1 -", "filling 0 1234567 2", "fillings 0 1 2",
		"rate", "rate 1", "rate 1 2 3", "rate -0 1", "rate 1 02", "rate 1 2\t", "rate 1 +2", "rate x 2", "rates 1 2",
		"end", "end 0 0", "end -", "end 00", "end -0", "end +0", "end -1", "end x", "ends 0", "End 0", "", " ", "5", "ice 1 2",
	} {
		wrong(t, 2, head+row+"\n"+rated+none)
	}
	for _, row := range []string{
		"lot", "lot 1", "lot 1 2 3", "lot 01 2", "lot 1 1234567", "lot 1  2", "Lot 1 2", "lots 1 2",
		"stay", "stay 0 1", "stay 0 1 2 3", "stay 0 1 02", "stay -0 1 2", "stay 0 1 2 ", "stays 0 1 2", "Stay 0 1 2",
	} {
		wrong(t, 4, head+rated+single+row+"\n"+end)
	}
}

// P4.5: what is as said has the errors of its cellar, then those of its lots; a text that is too long is not looked at.
func TestReadErrors(t *testing.T) {
	for _, k := range []struct {
		text string
		row  int
		e    api.Errno
	}{
		{head + none, 0, api.ErrShort},
		{head + single + end, 0, api.ErrShort},
		{"hall -123456 2\n" + rated + none, 0, api.ErrRange},
		{"hall 2 123456\n" + rated + none, 0, api.ErrRange},
		{"hall 5 -5\n" + rated + none, 0, api.ErrOrder},
		{head + strings.Repeat(box, 7) + rated + none, 0, api.ErrFull},
		{head + "box 9 1 2 3 4 -2 1 0 1\n" + rated + none, 0, api.ErrClash},
		{head + filling + rated + none, 0, api.ErrMissing},
		{head + box + "filling -1 0 0\n" + rated + none, 0, api.ErrMissing},
		{head + box + strings.Repeat(filling, 21) + rated + none, 0, api.ErrFull},
		{head + rated + rated + none, 0, api.ErrOrder},
		{head + strings.Repeat(rated, 7) + none, 0, api.ErrFull},
		{head + rated + strings.Repeat(single, 20) + "end 20\n", 0, api.OK},
		{head + rated + strings.Repeat(single, 21) + "end 21\n", 0, api.ErrFull},
		{head + rated + "lot 240 0\n" + strings.Repeat(single, 20) + "end 21\n", 0, api.ErrFull},
		{head + rated + rated + strings.Repeat(single, 21) + "end 21\n", 0, api.ErrOrder},
		{head + rated + "lot -1 6\n" + end, 0, api.ErrRange},
		{head + rated + "lot 5 100001\n" + end, 0, api.ErrRange},
		{head + rated + single + stay + end, 0, api.ErrMissing},
		{head + box + rated + single + "stay 0 4 7\n" + end, 0, api.ErrOrder},
		{head + box + rated + single + strings.Repeat(stay, 9) + end, 0, api.ErrFull},
		{head + box + rated + single + stay + stay + "lot 240 0\nend 2\n", 0, api.ErrOrder},
		{"hall 5 -5\n" + rated + end, 3, api.ErrForm},
		{strings.Repeat("x", 3000), 1, api.ErrForm},
		{strings.Repeat("x", 3001), 0, api.ErrLong},
		{journal + strings.Repeat("x", 3000), 0, api.ErrLong},
		{head + strings.Repeat(rated, 298) + none, 0, api.ErrFull},
		{head + strings.Repeat(rated, 297) + "rate 10 23\n" + none, 0, api.ErrFull},
	} {
		c, lots, row, e := cold.Read(k.text)
		if row != k.row || e != k.e || e != api.OK && !empty(c, lots) {
			t.Errorf("%.60q (%d bytes): %v %v %d %v", k.text, len(k.text), c, lots, row, e)
		}
	}
}

// longest returns a cellar and lots whose journal has 3,000 bytes.
func longest() (api.Cellar, []api.Lot) {
	c, l := full()
	l.Keeps = 0
	lots := slices.Repeat([]api.Lot{l}, 20)
	bare, _ := cold.Write(c, nil)
	length := func() int {
		// The number of lots has one more digit.
		bytes := len(bare) + 1
		for _, l := range lots {
			one, _ := cold.Write(c, []api.Lot{l})
			bytes += len(one) - len(bare)
		}
		return bytes
	}
	for i := 0; length() > 3000; i = (i + 1) % len(lots) {
		lots[i].Stays = lots[i].Stays[1:]
	}
	for i := 0; length() < 3000; i = (i + 1) % len(lots) {
		lots[i].Keeps = 10 * max(1, lots[i].Keeps)
	}
	return c, lots
}

// P4.5: a journal has at most 3,000 bytes, and one that has as many is read.
func TestLength(t *testing.T) {
	c, lots := longest()
	s, e := cold.Write(c, lots)
	if len(s) != 3000 || e != api.OK {
		t.Fatal(len(s), e)
	}
	if again, stock, row, e := cold.Read(s); !same(again, c, stock, lots) || row != 0 || e != api.OK {
		t.Error(again, stock, row, e)
	}
	lots[0].Keeps = 10 * max(1, lots[0].Keeps)
	if s, e := cold.Write(c, lots); s != "" || e != api.ErrLong {
		t.Error(len(s), e)
	}
}

// P4.5: Write tells the errors in their order.
func TestWriteErrors(t *testing.T) {
	bad := api.Lot{Born: -1}
	c, l := full()
	for i, k := range []struct {
		c    api.Cellar
		lots []api.Lot
		want api.Errno
	}{
		{api.Cellar{}, slices.Repeat([]api.Lot{bad}, 21), api.ErrShort},
		{cellar(), slices.Repeat([]api.Lot{bad}, 21), api.ErrFull},
		{cellar(), []api.Lot{lot(), bad}, api.ErrRange},
		{c, append(slices.Repeat([]api.Lot{l}, 19), bad), api.ErrRange},
		{c, slices.Repeat([]api.Lot{l}, 20), api.ErrLong},
	} {
		if s, e := cold.Write(k.c, k.lots); s != "" || e != k.want {
			t.Errorf("%d: %q %v", i, s, e)
		}
	}
}

// P4.13: a journal is read from its cellar and lots.
func TestThereAndBack(t *testing.T) {
	r := rand.New(rand.NewPCG(4, 13))
	c, l := full()
	hold := func(c api.Cellar, lots []api.Lot) {
		t.Helper()
		s, e := cold.Write(c, lots)
		if e != api.OK || len(s) > 3000 {
			t.Fatal(c, lots, len(s), e)
		}
		if again, stock, row, e := cold.Read(s); !same(again, c, stock, lots) || row != 0 || e != api.OK {
			t.Fatal(c, lots, again, stock, row, e)
		}
	}
	hold(c, slices.Repeat([]api.Lot{l}, 15))
	hold(c, make([]api.Lot, 20))
	for range 1000 {
		c := pickCellar(r, 6, 20)
		var lots []api.Lot
		for range r.IntN(21) {
			lots = append(lots, pickLot(r, c, 20))
		}
		hold(c, lots)
	}
}

// P4.13: what is read is written as it was, whatever bytes of a journal are others, or are left out.
func TestBackAndThere(t *testing.T) {
	read := 0
	for i := range journal {
		for _, bytes := range slices.Concat([]string{""}, strings.Split("0 1 2 3 9 - + x s", " "), []string{" ", "\n", "\r", "\x00"}) {
			for _, text := range []string{journal[:i] + bytes, journal[:i] + bytes + journal[i:], journal[:i] + bytes + journal[i+1:]} {
				c, lots, row, e := cold.Read(text)
				if e != api.OK {
					if !empty(c, lots) || row > 0 && e != api.ErrForm {
						t.Fatalf("%q: %v %v %d %v", text, c, lots, row, e)
					}
					continue
				}
				read++
				if s, f := cold.Write(c, lots); s != text || f != api.OK || row != 0 {
					t.Fatalf("%q: %q %d %v", text, s, row, f)
				}
			}
		}
	}
	if read < len(journal) {
		t.Error("few journals were read:", read)
	}
}
