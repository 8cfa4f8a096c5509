package swap_test

import (
	"slices"
	"strings"
	"testing"

	"shambles/api"
	"shambles/swap"
)

// ledger is the ledger of the trade T of the chapter's examples.
const ledger = "trader 0 0\nlike 1 0\nlike 2 0\ntrader 1 0\nlike 0 0\n" +
	"trader 2 0\nlike 0 0\nlike 1 0\ntrader 3 0\nlike 2 0\nlike 3 0\nlike 0 0\nend 4\n"

// Rows that are right, and the numbers of traders with which a ledger ends.
const (
	one   = "trader 5 6\n"
	other = "trader 5 2\n"
	liked = "like 7 3\n"
	none  = "end 0\n"
	end   = "end 1\n"
)

// P6.4: the example, there and back.
func TestLedger(t *testing.T) {
	if s, e := swap.Write(trade()); s != ledger || e != api.OK {
		t.Errorf("%q %v", s, e)
	}
	if x, row, e := swap.Read(ledger); !same(x, trade()) || row != 0 || e != api.OK {
		t.Error(x, row, e)
	}
}

// P6.4: ledgers that are as said.
func TestRight(t *testing.T) {
	for _, k := range []struct {
		text string
		x    api.Trade
	}{
		{none, api.Trade{}},
		{one + end, owned(on(6, 5), nil)},
		{one + liked + end, owned(on(6, 5), on(3, 7))},
		{one + liked + "like 0 0\n" + end, owned(on(6, 5), append(on(3, 7), on(0, 0)...))},
		{one + "like 5 6\n" + end, owned(on(6, 5), on(6, 5))},
		{one + other + liked + "end 2\n", owned(append(on(6, 5), on(2, 5)...), nil, on(3, 7))},
		{one + liked + other + "end 2\n", owned(append(on(6, 5), on(2, 5)...), on(3, 7), nil)},
	} {
		if x, row, e := swap.Read(k.text); !same(x, k.x) || row != 0 || e != api.OK {
			t.Errorf("%q: %v %d %v", k.text, x, row, e)
		}
		if s, e := swap.Write(k.x); s != k.text || e != api.OK {
			t.Errorf("%q: %q %v", k.text, s, e)
		}
	}
}

// wrong holds that in each text just this row is the first one that is not as said.
func wrong(t *testing.T, row int, texts ...string) {
	t.Helper()
	for _, text := range texts {
		if x, got, e := swap.Read(text); got != row || e != api.ErrForm || !same(x, api.Trade{}) {
			t.Errorf("%q: %v %d %v", text, x, got, e)
		}
	}
}

// P6.4: rows come in their order, and there is an end, behind which nothing comes.
func TestRowOrder(t *testing.T) {
	wrong(t, 1, "", "\n", "x", "\n"+none, liked, liked+one+end, end, "end 0", "trader 5 6", "end\n", "end 0 0\n")
	wrong(t, 2, one, one+"\n", one+"x\n", one+none, one+"end 2\n", one+"end 1", one+"end 1\r\n", one+"like 7 3", none+none, none+one, none+liked, none+"\n", none+" ", none+"x")
	wrong(t, 3, one+liked, one+liked+none, one+liked+"end 2\n", one+other, one+other+end, one+other+"end 3\n", one+end+end, one+end+liked, one+end+other, one+end+"\n", one+end+"x")
	wrong(t, 4, one+liked+other, one+liked+other+end, one+liked+liked, one+liked+end+liked, one+other+liked+end)
}

// P6.4: each way in which the words of a row are not as said.
func TestWords(t *testing.T) {
	for _, row := range []string{
		"trader", "trader ", "trader 5", "trader 5 ", "trader 5 6 7", "trader 5 6 ", " trader 5 6", "trader  5 6", "trader 5  6", "trader\t5 6",
		"Trader 5 6", "traders 5 6", "trade 5 6", "5 6", "", " ", "swap 5 6",
		"trader 05 6", "trader 5 06", "trader 00 6", "trader -5 6", "trader 5 -0", "trader +5 6", "trader - 6", "trader x 6", "trader 5 6x",
		"trader 5.0 6", "trader 5 6\r", "trader 1000 6", "trader 5 1000", "trader 0005 6", "trader 99999999999999999999 6", "trader \u0665 6",
	} {
		wrong(t, 1, row+"\n"+one+end)
	}
	for _, row := range []string{
		"like", "like ", "like 7", "like 7 ", "like 7 3 1", "like 7 3 ", " like 7 3", "like  7 3", "like 7  3", "Like 7 3", "likes 7 3", "lik 7 3",
		"like 07 3", "like 7 03", "like -7 3", "like 7 -3", "like +7 3", "like - 3", "like 1000 3", "like 7 1000", "like 7 x",
		"end", "end ", "end 1 1", "end 1 ", "end 01", "end -1", "end +1", "end x", "ends 1", "End 1", "end  1", "end 1000",
	} {
		wrong(t, 2, one+row+"\n"+end)
	}
}

// P6.4: what is as said has the errors of its trade; a text that is too long is not looked at.
func TestReadErrors(t *testing.T) {
	for _, k := range []struct {
		text string
		row  int
		e    api.Errno
	}{
		{"trader 8 6\n" + end, 0, api.ErrRange},
		{"trader 5 7\n" + end, 0, api.ErrRange},
		{"trader 999 999\n" + end, 0, api.ErrRange},
		{one + "like 8 0\n" + end, 0, api.ErrRange},
		{one + "like 100 0\n" + end, 0, api.ErrRange},
		{one + one + "end 2\n", 0, api.ErrExists},
		{one + liked + liked + end, 0, api.ErrExists},
		{strings.Repeat(one, 9) + "end 9\n", 0, api.ErrFull},
		{one + strings.Repeat(liked, 17) + end, 0, api.ErrFull},
		{one + one + end, 3, api.ErrForm},
		{one + strings.Repeat(liked, 331) + "end 1 ", 333, api.ErrForm},
		{one + strings.Repeat(liked, 331) + end, 0, api.ErrFull},
		{"trader 5 600\n" + "trader 5 7\n" + strings.Repeat(liked, 330) + "end 2\n", 0, api.ErrRange},
		{"trader 50 600\n" + "trader 5 7\n" + strings.Repeat(liked, 330) + "end 2\n", 0, api.ErrLong},
		{strings.Repeat("x", 3000), 1, api.ErrForm},
		{strings.Repeat("x", 3001), 0, api.ErrLong},
		{ledger + strings.Repeat("x", 3000), 0, api.ErrLong},
	} {
		if x, row, e := swap.Read(k.text); row != k.row || e != k.e || !same(x, api.Trade{}) {
			t.Errorf("%.60q (%d bytes): %v %d %v", k.text, len(k.text), x, row, e)
		}
	}
}

// P6.12: a ledger is read from its trade.
func TestThereAndBack(t *testing.T) {
	hold := func(x api.Trade) {
		t.Helper()
		s, e := swap.Write(x)
		if e != api.OK {
			t.Fatal(x, e)
		}
		if again, row, e := swap.Read(s); !same(again, x) || row != 0 || e != api.OK {
			t.Fatal(x, again, row, e)
		}
	}
	hold(full())
	for x := range trades(1000, 8) {
		hold(x)
	}
}

// P6.12: what is read is written as it was, whatever bytes of a ledger are others, or are left out.
func TestBackAndThere(t *testing.T) {
	read := 0
	for i := range ledger {
		for _, bytes := range slices.Concat([]string{""}, strings.Split("0 1 2 3 9 - + x s", " "), []string{" ", "\n", "\r", "\x00"}) {
			for _, text := range []string{ledger[:i] + bytes, ledger[:i] + bytes + ledger[i:], ledger[:i] + bytes + ledger[i+1:]} {
				x, row, e := swap.Read(text)
				if e != api.OK {
					if !same(x, api.Trade{}) || row > 0 && e != api.ErrForm {
						t.Fatalf("%q: %v %d %v", text, x, row, e)
					}
					continue
				}
				read++
				if s, f := swap.Write(x); s != text || f != api.OK || row != 0 {
					t.Fatalf("%q: %q %d %v", text, s, row, f)
				}
			}
		}
	}
	if read < len(ledger)/2 {
		t.Error("few ledgers were read:", read)
	}
}
