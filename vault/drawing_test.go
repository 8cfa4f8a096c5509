package vault_test

import (
	"math/rand/v2"
	"slices"
	"strings"
	"testing"

	"shambles/api"
	"shambles/vault"
)

// drawing is the drawing of the hall H of the chapter's examples.
const drawing = "hall 3 2 2 1\nwater 0 0\nwater 2 1\nshut 1 1\nbears 500\nbears 300\nbears 500\nbears 200\n" +
	"kind 200 300 1 90 2 0 2\nkind 100 150 0 50 3 1 0\nend 2\n"

// Rows that are right.
const (
	head  = "hall 1 1 1 1\n"
	water = "water 0 0\n"
	shut  = "shut 0 0\n"
	bears = "bears 5\n"
	kind  = "kind 1 2 0 3 1 0\n"
	end   = "end 1\n"
)

// P3.5: the example, there and back.
func TestDrawing(t *testing.T) {
	if s, e := vault.Write(hall()); s != drawing || e != api.OK {
		t.Errorf("%q %v", s, e)
	}
	if h, row, e := vault.Read(drawing); !same(h, hall()) || row != 0 || e != api.OK {
		t.Error(h, row, e)
	}
}

// P3.5: drawings that are as said.
func TestRight(t *testing.T) {
	one := api.Hall{Wide: 1, Deep: 1, Bay: api.Cell{X: 1, Y: 1}, Bears: []int{5}, Kinds: []api.Kind{{Load: span(1, 2), Away: []int{0}, Rent: 3, Most: 1}}}
	wet, closed, both, thirsty := one, one, one, copied(one)
	wet.Water = []api.Cell{{}}
	closed.Shut = []api.Cell{{}}
	both.Water, both.Shut = []api.Cell{{}}, []api.Cell{{}}
	thirsty.Kinds[0].Water = true
	for text, want := range map[string]api.Hall{
		head + bears + kind + end:                              one,
		head + water + bears + kind + end:                      wet,
		head + shut + bears + kind + end:                       closed,
		head + water + shut + bears + kind + end:               both,
		head + bears + "kind 1 2 1 3 1 0\n" + end:              thirsty,
		"hall 2 1 1 1\nbears 0\nbears 10000000\n" + kind + end: {Wide: 2, Deep: 1, Bay: api.Cell{X: 1, Y: 1}, Bears: []int{0, 10000000}, Kinds: one.Kinds},
		"hall 1 2 1 2\nbears 5\n" + "kind 0 1000000 0 1000000 24 9\n" + end: {
			Wide: 1, Deep: 2, Bay: api.Cell{X: 1, Y: 2}, Bears: []int{5},
			Kinds: []api.Kind{{Load: span(0, 1000000), Away: []int{9}, Rent: 1000000, Most: 24}}},
	} {
		if h, row, e := vault.Read(text); !same(h, want) || row != 0 || e != api.OK {
			t.Errorf("%q: %v %d %v", text, h, row, e)
		}
		if s, e := vault.Write(want); s != text || e != api.OK {
			t.Errorf("%q: %q %v", text, s, e)
		}
	}
}

// wrong holds that in each text just this row is the first one that is not as said.
func wrong(t *testing.T, row int, texts ...string) {
	t.Helper()
	for _, text := range texts {
		if h, got, e := vault.Read(text); got != row || e != api.ErrForm || !same(h, api.Hall{}) {
			t.Errorf("%q: %v %d %v", text, h, got, e)
		}
	}
}

// P3.5: rows come in their order, and there is an end, behind which nothing comes.
func TestRowOrder(t *testing.T) {
	wrong(t, 1, "", "\n", "x", water, shut, bears, kind, end, "end 0\n", bears+head, strings.TrimSuffix(head, "\n"), "\n"+head+bears+kind+end)
	wrong(t, 2, head, head+head, head+"\n", head+"end 1\n", head+strings.TrimSuffix(bears, "\n"), head+"x\n", head+" \n")
	wrong(t, 3, head+water, head+water+head, head+shut+head, head+shut+water, head+bears+head, head+bears+water, head+bears+shut, head+bears+end, head+bears+"end 2\n")
	wrong(t, 3, head+kind+water, head+kind+shut, head+kind+bears, head+kind+head, head+kind+"end 0\n", head+kind+"end 2\n")
	wrong(t, 4, head+water+bears+water, head+bears+kind, head+bears+kind+bears, head+bears+kind+"end 1", head+bears+kind+"end 0\n", head+bears+kind+"end 1\r\n")
	wrong(t, 5, head+bears+kind+end+"\n", head+bears+kind+end+"x", head+bears+kind+end+" ", head+bears+kind+end+end, head+bears+kind+end+kind, head+bears+kind+end+head)
}

// P3.5: each way in which the words of a row are not as said.
func TestWords(t *testing.T) {
	for _, row := range []string{
		"hall", "hall 1 1 1", "hall 1 1 1 1 1", "hall 1 1 1 1 ", " hall 1 1 1 1", "hall  1 1 1 1", "hall\t1 1 1 1", "Hall 1 1 1 1", "halls 1 1 1 1", "hal 1 1 1 1",
		"hall 01 1 1 1", "hall 1 -1 1 1", "hall 1 1 +1 1", "hall 1 1 1 x", "hall 1 1 1 ", "hall 1 1 1 1\r", "hall 123456789 1 1 1", "hall 1 1 1 000000001", "hall 1 1 1 1.0",
	} {
		wrong(t, 1, row+"\n"+bears+kind+end)
	}
	for _, row := range []string{
		"water", "water 0", "water 0 0 0", "water 0 -0", "water 00 0", "water 0  0", "water 0 0 ", "water 123456789 0", "Water 0 0",
		"shut", "shut 0", "shut 0 0 0", "shut -1 0", "shut 0 01", "shut 0 123456789",
		"bears", "bears 5 5", "bears -5", "bears 05", "bears +5", "bears ", "bears 100000000", "bear 5",
		"", " ", "5", "wall 0 0",
	} {
		wrong(t, 2, head+row+"\n"+bears+kind+end)
	}
	for _, row := range []string{
		"kind", "kind 1 2 0 3", "kind 1 2 2 3 1 0", "kind 1 2 00 3 1 0", "kind 1 2 - 3 1 0", "kind 1 2 -1 3 1 0", "kind 1 2 10 3 1 0", "kind 1 2 0 3 1 -1", "kind 1 2 0 3 1 0 ",
		"kind  1 2 0 3 1 0", "kind 01 2 0 3 1 0", "kind 1 123456789 0 3 1 0", "kind 1 2 0 3 1 123456789", "kind 1 2 0 03 1 0", "kind 1 2 0 3 x 0", "kinds 1 2 0 3 1 0",
		"end", "end 0 0", "end -", "end 00", "end -0", "end x", "ends 0",
	} {
		wrong(t, 3, head+bears+row+"\n"+kind+end)
	}
}

// P3.5: what is as said has the errors of its hall; a text that is too long is not looked at.
func TestReadErrors(t *testing.T) {
	for _, c := range []struct {
		text string
		row  int
		e    api.Errno
	}{
		{head + "end 0\n", 0, api.ErrForm},
		{head + bears + "end 0\n", 0, api.ErrShort},
		{head + kind + end, 0, api.ErrForm},
		{"hall 0 1 1 1\nend 0\n", 0, api.ErrRange},
		{"hall 99999999 1 1 1\n" + bears + kind + end, 0, api.ErrRange},
		{"hall 1 1 1 99999999\n" + bears + kind + end, 0, api.ErrRange},
		{head + strings.Repeat(water, 25) + bears + kind + end, 0, api.ErrFull},
		{head + water + water + bears + kind + end, 0, api.ErrExists},
		{head + "water 1 0\n" + bears + kind + end, 0, api.ErrMissing},
		{head + shut + shut + bears + kind + end, 0, api.ErrExists},
		{head + bears + bears + kind + end, 0, api.ErrForm},
		{head + "bears 10000001\n" + kind + end, 0, api.ErrRange},
		{head + bears + "kind 2 1 0 3 1 0\n" + end, 0, api.ErrOrder},
		{head + bears + "kind 1 2 0 3 1\n" + end, 0, api.ErrForm},
		{head + bears + "kind 1 2 0 3 1 0 0\n" + end, 0, api.ErrForm},
		{head + bears + "kind 1 2 0 3 1 0 0\n" + kind + "end 2\n", 0, api.ErrForm},
		{head + bears + strings.Repeat(kind, 7) + "end 7\n", 0, api.ErrFull},
		{head + bears + "kind 1 2 0 99999999 1 0\n" + end, 0, api.ErrRange},
		{"hall 0 1 1 1\n" + bears + kind + "end 2\n", 4, api.ErrForm},
		{strings.Repeat("x", 2500), 1, api.ErrForm},
		{strings.Repeat("x", 2501), 0, api.ErrLong},
		{drawing + strings.Repeat("x", 2500), 0, api.ErrLong},
		{head + strings.Repeat(bears, 308) + kind + end, 0, api.ErrForm},
		{head + "bears 50\n" + strings.Repeat(bears, 307) + kind + end, 0, api.ErrLong},
	} {
		h, row, e := vault.Read(c.text)
		if row != c.row || e != c.e || !same(h, api.Hall{}) {
			t.Errorf("%.60q (%d bytes): %v %d %v", c.text, len(c.text), h, row, e)
		}
	}
}

// P3.13: a drawing is read from its hall.
func TestThereAndBack(t *testing.T) {
	r := rand.New(rand.NewPCG(3, 13))
	all := []api.Hall{hall(), full()}
	for range 1000 {
		all = append(all, pickHall(r, 6, 4, 6, 24))
	}
	for _, h := range all {
		s, e := vault.Write(h)
		if e != api.OK || len(s) > api.MaxDrawing {
			t.Fatal(h, s, e)
		}
		if again, row, e := vault.Read(s); !same(again, h) || row != 0 || e != api.OK {
			t.Fatal(h, again, row, e)
		}
	}
}

// P3.13: what is read is written as it was, whatever bytes of a drawing are others, or are left out.
func TestBackAndThere(t *testing.T) {
	read := 0
	for i := range drawing {
		for _, bytes := range slices.Concat([]string{""}, strings.Split("0 1 2 3 9 - + x s", " "), []string{" ", "\n", "\r", "\x00"}) {
			for _, text := range []string{drawing[:i] + bytes, drawing[:i] + bytes + drawing[i:], drawing[:i] + bytes + drawing[i+1:]} {
				h, row, e := vault.Read(text)
				if e != api.OK {
					if !same(h, api.Hall{}) || row > 0 && e != api.ErrForm {
						t.Fatalf("%q: %v %d %v", text, h, row, e)
					}
					continue
				}
				read++
				if s, f := vault.Write(h); s != text || f != api.OK || row != 0 {
					t.Fatalf("%q: %q %d %v", text, s, row, f)
				}
			}
		}
	}
	if read < len(drawing) {
		t.Error("few drawings were read:", read)
	}
}
