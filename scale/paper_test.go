package scale_test

import (
	"math/rand/v2"
	"strings"
	"testing"

	"shambles/api"
	"shambles/scale"
)

// paper is the paper of the bench B of the chapter's examples.
const paper = "mass 1000 0 0\nmass 1000 -20 20\nmass 500 -10 10\n" +
	"weighing 1 0 3 5\nweighing 2 1 -9 -7\nscale -5 5 -1 2\ntrial 0 2 1 1010\nend 4\n"

// P1.6: the example, there and back.
func TestPaper(t *testing.T) {
	if s, e := scale.Write(bench()); s != paper || e != api.OK {
		t.Errorf("%q %v", s, e)
	}
	if b, row, e := scale.Read(paper); !same(b, bench()) || row != 0 || e != api.OK {
		t.Error(b, row, e)
	}
}

// P1.6: the words of a trial come in the order Scale, Day, Mass, Shown.
func TestTrialRow(t *testing.T) {
	b := full()
	b.Trials = []api.Trial{{Scale: 2, Day: 7, Mass: 4, Shown: 31}}
	s, e := scale.Write(b)
	if e != api.OK || !strings.Contains(s, "\ntrial 2 7 4 31\nend 8\n") {
		t.Errorf("%q %v", s, e)
	}
}

// Rows that are right, each as short as can be.
const (
	mass     = "mass 5 0 0\n"
	weighing = "weighing 0 1 0 0\n"
	balance  = "scale 0 0 0 0\n"
	trial    = "trial 0 0 0 5\n"
)

// paperCase is a text, and what Read returns of it beside the bench.
type paperCase struct {
	text string
	row  int
	e    api.Errno
}

func holdRows(t *testing.T, cases []paperCase) {
	t.Helper()
	for _, c := range cases {
		b, row, e := scale.Read(c.text)
		if row != c.row || e != c.e || e != api.OK && !same(b, api.Bench{}) {
			t.Errorf("%q: %v %d %v", c.text, b, row, e)
		}
	}
}

// P1.6: rows come in their order, and there is an end, behind which nothing comes.
func TestReadOrder(t *testing.T) {
	holdRows(t, []paperCase{
		{mass + balance + "end 0\n", 0, api.OK},
		{mass + mass + weighing + balance + trial + "end 0\n", 0, api.OK},
		{"", 1, api.ErrForm},
		{"\n", 1, api.ErrForm},
		{mass + "\n", 2, api.ErrForm},
		{mass + balance, 3, api.ErrForm},
		{mass + balance + "end 0", 3, api.ErrForm},
		{mass + balance + "end 0\n\n", 4, api.ErrForm},
		{mass + balance + "end 0\n ", 4, api.ErrForm},
		{mass + balance + "end 0\n" + mass, 4, api.ErrForm},
		{mass + balance + "end 0\nend 0\n", 4, api.ErrForm},
		{mass + balance + "end\n", 3, api.ErrForm},
		{mass + balance + "end 0 0\n", 3, api.ErrForm},
		{mass + balance + "end 0\r\n", 3, api.ErrForm},
		{balance + mass + "end 0\n", 2, api.ErrForm},
		{mass + balance + mass + "end 0\n", 3, api.ErrForm},
		{mass + mass + balance + weighing + "end 0\n", 4, api.ErrForm},
		{mass + trial + balance + "end 0\n", 3, api.ErrForm},
		{mass + mass + trial + weighing + "end 0\n", 4, api.ErrForm},
	})
}

// P1.6: each way in which the words of a row are not as said.
func TestReadWords(t *testing.T) {
	holdRows(t, []paperCase{
		{"mass 5 0\n", 1, api.ErrForm},
		{"mass 5 0 0 0\n", 1, api.ErrForm},
		{"mass\n", 1, api.ErrForm},
		{"mass 5 0 0 \n", 1, api.ErrForm},
		{" mass 5 0 0\n", 1, api.ErrForm},
		{"mass 5  0 0\n", 1, api.ErrForm},
		{"mass\t5 0 0\n", 1, api.ErrForm},
		{"Mass 5 0 0\n", 1, api.ErrForm},
		{"masses 5 0 0\n", 1, api.ErrForm},
		{"mass five 0 0\n", 1, api.ErrForm},
		{"mass +5 0 0\n", 1, api.ErrForm},
		{"mass 05 0 0\n", 1, api.ErrForm},
		{"mass 5 -0 0\n", 1, api.ErrForm},
		{"mass 5 00 0\n", 1, api.ErrForm},
		{"mass 5 -01 0\n", 1, api.ErrForm},
		{"mass 5 - 0\n", 1, api.ErrForm},
		{"mass 5 --1 0\n", 1, api.ErrForm},
		{"mass 1_0 0 0\n", 1, api.ErrForm},
		{"mass 0x5 0 0\n", 1, api.ErrForm},
		{"mass 12345678 0 0\n", 1, api.ErrForm},
		{"mass 5 -12345678 0\n", 1, api.ErrForm},
		{"mass 99999999999999999999 0 0\n", 1, api.ErrForm},
	})
}

// P1.6: what is as said has the errors of its bench; a text that is too long is not looked at.
func TestReadErrors(t *testing.T) {
	holdRows(t, []paperCase{
		{"mass 1000001 0 0\n" + balance + "end 0\n", 0, api.ErrRange},
		{"mass 5 -1234567 0\n" + balance + "end 0\n", 0, api.ErrRange},
		{"mass 5 1 0\n" + balance + "end 0\n", 0, api.ErrOrder},
		{"end 0\n", 0, api.ErrShort},
		{strings.Repeat(mass, 6) + balance + "end 0\n", 0, api.ErrFull},
		{mass + balance + strings.Repeat(trial, 7) + "end 0\n", 0, api.ErrFull},
		{mass + "weighing 0 1 0 0\n" + balance + "end 0\n", 0, api.ErrMissing},
		{mass + "weighing 0 0 0 0\n" + balance + "end 0\n", 0, api.ErrForm},
		{mass + balance + "end 9\n", 0, api.ErrRange},
		{mass + balance + "end -1\n", 0, api.ErrRange},
		{"mass 0 0 0\n" + balance + "fin 0\n", 3, api.ErrForm},
		{strings.Repeat("x", api.MaxPaper), 1, api.ErrForm},
		{strings.Repeat("x", api.MaxPaper+1), 0, api.ErrLong},
		{paper + strings.Repeat("x", api.MaxPaper), 0, api.ErrLong},
	})
}

// P1.14: a paper is read from its bench.
func TestThereAndBack(t *testing.T) {
	r := rand.New(rand.NewPCG(14, 14))
	benches := []api.Bench{full(), broken()}
	for range 200 {
		great, _ := pickTrue(r)
		benches = append(benches, pickBench(r), great)
	}
	for _, b := range benches {
		s, e := scale.Write(b)
		if e != api.OK || len(s) > api.MaxPaper {
			t.Fatal(b, s, e)
		}
		if again, row, e := scale.Read(s); !same(again, b) || row != 0 || e != api.OK {
			t.Fatal(b, again, row, e)
		}
	}
}

// P1.14: what is read is written as it was, whatever byte of a paper is another one, or is left out.
func TestBackAndThere(t *testing.T) {
	hold := func(text string) {
		b, row, e := scale.Read(text)
		if e != api.OK {
			if !same(b, api.Bench{}) || row > 0 && e != api.ErrForm {
				t.Fatalf("%q: %v %d %v", text, b, row, e)
			}
			return
		}
		if s, f := scale.Write(b); s != text || f != api.OK || row != 0 {
			t.Fatalf("%q: %q %d %v", text, s, row, f)
		}
	}
	for i := range len(paper) {
		hold(paper[:i])
		hold(paper[:i] + paper[i+1:])
		for _, c := range []byte("0159-+ \n\x00\xffmx") {
			hold(paper[:i] + string(c) + paper[i+1:])
			hold(paper[:i] + string(c) + paper[i:])
		}
	}
}
