package trace_test

import (
	"slices"
	"strings"
	"testing"

	"shambles/api"
	"shambles/trace"
)

// trail is the trail of the net N of the chapter's examples.
const trail = "batch 100\nbatch 50\nbatch 0\nbatch 20\nbatch 0\nbatch 0\n" +
	"move 0 2 60\nmove 1 2 30\nmove 2 4 50\nmove 3 4 10\nmove 2 5 40\nend 5\n"

// Rows that are right, and the numbers of moves with which a trail ends.
const (
	head = "batch 9\nbatch 0\n"
	nine = "move 0 1 9\n"
	back = "move 1 0 4\n"
	none = "end 0\n"
	end  = "end 1\n"
)

// P5.5: the example, there and back.
func TestTrail(t *testing.T) {
	if s, e := trace.Write(net()); s != trail || e != api.OK {
		t.Errorf("%q %v", s, e)
	}
	if n, row, e := trace.Read(trail); !same(n, net()) || row != 0 || e != api.OK {
		t.Error(n, row, e)
	}
}

// P5.5: trails that are as said.
func TestRight(t *testing.T) {
	there := api.Move{From: 0, To: 1, Grams: 9}
	for _, k := range []struct {
		text string
		n    api.Net
	}{
		{head + none, api.Net{Batches: []int{9, 0}}},
		{head + nine + end, api.Net{Batches: []int{9, 0}, Moves: []api.Move{there}}},
		{head + nine + back + "end 2\n", api.Net{Batches: []int{9, 0}, Moves: []api.Move{there, {From: 1, To: 0, Grams: 4}}}},
		{"batch 0\nend 0\n", api.Net{Batches: []int{0}}},
		{"batch 1000000\nend 0\n", api.Net{Batches: []int{1000000}}},
		{strings.Repeat("batch 7\n", 8) + none, api.Net{Batches: slices.Repeat([]int{7}, 8)}},
		{head + strings.Repeat("move 0 1 9\nmove 1 0 9\n", 6) + "end 12\n", api.Net{Batches: []int{9, 0}, Moves: slices.Repeat([]api.Move{there, {From: 1, To: 0, Grams: 9}}, 6)}},
	} {
		if n, row, e := trace.Read(k.text); !same(n, k.n) || row != 0 || e != api.OK {
			t.Errorf("%q: %v %d %v", k.text, n, row, e)
		}
		if s, e := trace.Write(k.n); s != k.text || e != api.OK {
			t.Errorf("%q: %q %v", k.text, s, e)
		}
	}
}

// wrong holds that in each text just this row is the first one that is not as said.
func wrong(t *testing.T, row int, texts ...string) {
	t.Helper()
	for _, text := range texts {
		if n, got, e := trace.Read(text); got != row || e != api.ErrForm || !empty(n) {
			t.Errorf("%q: %v %d %v", text, n, got, e)
		}
	}
}

// P5.5: rows come in their order, and there is an end, behind which nothing comes.
func TestRowOrder(t *testing.T) {
	wrong(t, 1, "", "\n", "x", end, "batch 9", "end 0", "\n"+head+none)
	wrong(t, 2, "batch 9\n", "batch 9\n\n", "batch 9\nx\n", "batch 9\nbatch 0", "batch 9\nend 1\n", nine+"batch 9\n"+end, nine+none, none+none, none+head, none+"\n")
	wrong(t, 3, head, head+"\n", head+end, head+"end 0", head+"end 0\r\n", head+strings.TrimSuffix(nine, "\n"))
	wrong(t, 4, head+nine, head+nine+"batch 4\n"+end, head+nine+none, head+nine+"end 2\n", head+nine+"end 1", head+none+none, head+none+"\n", head+none+" ", head+none+"x", head+none+nine, head+none+head)
	wrong(t, 5, head+nine+back, head+nine+back+end, head+nine+back+"end 3\n", head+nine+end+end, head+nine+end+"x", head+nine+end+back)
}

// P5.5: each way in which the words of a row are not as said.
func TestWords(t *testing.T) {
	for _, row := range []string{
		"batch", "batch ", "batch 1 2", "batch 1 ", " batch 1", "batch  1", "batch\t1", "Batch 1", "batches 1", "batc 1", "1", "", " ",
		"batch 01", "batch 00", "batch -1", "batch -0", "batch +1", "batch -", "batch x", "batch 1x", "batch 1.0", "batch 1\r",
		"batch 12345678", "batch 00000001", "batch 99999999999999999999", "batch \u0661",
	} {
		wrong(t, 1, row+"\n"+head+none)
	}
	for _, row := range []string{
		"move", "move 0", "move 0 1", "move 0 1 9 1", "move 0 1 9 ", "move 0  1 9", " move 0 1 9", "Move 0 1 9", "moves 0 1 9", "mov 0 1 9",
		"move 00 1 9", "move 0 01 9", "move 0 1 09", "move -1 1 9", "move 0 -1 9", "move 0 1 -9", "move 0 1 +9", "move 0 1 12345678", "move 12345678 1 9", "move 0 1 x",
		"end", "end ", "end 0 0", "end 00", "end -0", "end +0", "end -1", "end x", "ends 0", "End 0", "end  0", "end 12345678", "start 0",
	} {
		wrong(t, 3, head+row+"\n"+nine+end)
	}
}

// P5.5: what is as said has the errors of its net; a text that is too long is not looked at.
func TestReadErrors(t *testing.T) {
	for _, k := range []struct {
		text string
		row  int
		e    api.Errno
	}{
		{none, 0, api.ErrShort},
		{nine + end, 0, api.ErrShort},
		{strings.Repeat("batch 7\n", 9) + none, 0, api.ErrFull},
		{"batch 1000001\n" + none, 0, api.ErrRange},
		{"batch 9999999\n" + none, 0, api.ErrRange},
		{head + strings.Repeat("move 0 1 9\nmove 1 0 9\n", 7) + "end 14\n", 0, api.ErrFull},
		{head + "move 0 2 1\n" + end, 0, api.ErrMissing},
		{head + "move 9999999 1 1\n" + end, 0, api.ErrMissing},
		{head + "move 0 0 1\n" + end, 0, api.ErrForm},
		{head + "move 0 1 0\n" + end, 0, api.ErrRange},
		{head + "move 0 1 8000001\n" + end, 0, api.ErrRange},
		{head + "move 0 1 10\n" + end, 0, api.ErrOver},
		{head + back + end, 0, api.ErrOver},
		{head + "move 0 1 10\n" + none, 4, api.ErrForm},
		{strings.Repeat("x", 1500), 1, api.ErrForm},
		{strings.Repeat("x", 1501), 0, api.ErrLong},
		{trail + strings.Repeat("x", 1500), 0, api.ErrLong},
		{strings.Repeat("batch 100\n", 149) + "end 00000\n", 150, api.ErrForm},
		{strings.Repeat("batch 10\n", 166) + none, 0, api.ErrFull},
		{strings.Repeat("batch 10\n", 165) + "batch 100\n" + "end 0", 167, api.ErrForm},
		{strings.Repeat("batch 10\n", 166) + "end 0\n\n", 0, api.ErrLong},
	} {
		if n, row, e := trace.Read(k.text); row != k.row || e != k.e || !empty(n) {
			t.Errorf("%.60q (%d bytes): %v %d %v", k.text, len(k.text), n, row, e)
		}
	}
}

// P5.5, P5.13: a trail is read from its net.
func TestThereAndBack(t *testing.T) {
	hold := func(n api.Net) {
		t.Helper()
		s, e := trace.Write(n)
		if e != api.OK {
			t.Fatal(n, e)
		}
		if again, row, e := trace.Read(s); !same(again, n) || row != 0 || e != api.OK {
			t.Fatal(n, again, row, e)
		}
	}
	hold(full())
	for n := range nets(1000, 8, 1000000, 12) {
		hold(n)
	}
}

// P5.13: what is read is written as it was, whatever bytes of a trail are others, or are left out.
func TestBackAndThere(t *testing.T) {
	read := 0
	for i := range trail {
		for _, bytes := range slices.Concat([]string{""}, strings.Split("0 1 2 3 9 - + x s", " "), []string{" ", "\n", "\r", "\x00"}) {
			for _, text := range []string{trail[:i] + bytes, trail[:i] + bytes + trail[i:], trail[:i] + bytes + trail[i+1:]} {
				n, row, e := trace.Read(text)
				if e != api.OK {
					if !empty(n) || row > 0 && e != api.ErrForm {
						t.Fatalf("%q: %v %d %v", text, n, row, e)
					}
					continue
				}
				read++
				if s, f := trace.Write(n); s != text || f != api.OK || row != 0 {
					t.Fatalf("%q: %q %d %v", text, s, row, f)
				}
			}
		}
	}
	if read < len(trail)/2 {
		t.Error("few trails were read:", read)
	}
}
