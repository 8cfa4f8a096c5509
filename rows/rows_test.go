package rows_test

import (
	"slices"
	"strings"
	"testing"

	"shambles/api"
	"shambles/rows"
)

func TestRow(t *testing.T) {
	if s := rows.Row("a"); s != "a\n" {
		t.Errorf("%q", s)
	}
	if s := rows.Row("a", 1, -20, 0); s != "a 1 -20 0\n" {
		t.Errorf("%q", s)
	}
}

func TestRead(t *testing.T) {
	for _, c := range []struct {
		text string
		row  int
		kept string
	}{
		{"end\n", 0, "end"},
		{"a b\nend 1\n", 0, "a,b;end,1"},
		{"a  b\nend\n", 0, "a,,b;end"},
		{" a\n\nend\n", 0, ",a;;end"},
		{"end a\r\n", 0, "end,a\r"},
		{"", 1, ""},
		{"a", 1, ""},
		{"end", 1, ""},
		{"a\n", 2, "a"},
		{"a\nend", 2, "a"},
		{"a\nbad\nend\n", 2, "a;bad"},
		{"a\nend\n\n", 3, "a;end"},
		{"a\nend\nx", 3, "a;end"},
		{"a\nend\nend\n", 3, "a;end"},
		{"ends\n", 2, "ends"},
	} {
		var kept []string
		keep := func(words []string) bool {
			kept = append(kept, strings.Join(words, ","))
			return words[0] != "bad"
		}
		want := api.ErrForm
		if c.row == 0 {
			want = api.ErrClash
		}
		row, e := rows.Read(c.text, 10, keep, func() api.Errno { return api.ErrClash })
		if row != c.row || e != want || strings.Join(kept, ";") != c.kept {
			t.Errorf("%q: %d %v %q", c.text, row, e, kept)
		}
	}
}

func TestReadLong(t *testing.T) {
	keep := func(words []string) bool { return words[0] == "end" }
	check := func() api.Errno { return api.OK }
	for _, c := range []struct {
		text string
		row  int
		want api.Errno
	}{
		{"end\n", 0, api.OK},
		{"end12\n", 1, api.ErrForm},
		{"end 1\n", 0, api.OK},
		{"end 12\n", 0, api.ErrLong},
		{"xxxxxxx", 0, api.ErrLong},
		{"\u0661\u0661\u0661\u0661", 0, api.ErrLong},
	} {
		if row, e := rows.Read(c.text, 6, keep, check); row != c.row || e != c.want {
			t.Errorf("%q: %d %v", c.text, row, e)
		}
	}
}

func TestNumbers(t *testing.T) {
	for _, c := range []struct {
		word            string
		n               int
		number, natural bool
	}{
		{"0", 0, true, true}, {"7", 7, true, true}, {"100", 100, true, true}, {"999", 999, true, true},
		{"-1", -1, true, false}, {"-999", -999, true, false},
		{"1000", 0, false, false}, {"-1000", 0, false, false}, {"99999999999999999999", 0, false, false},
		{"", 0, false, false}, {"-", 0, false, false}, {"--1", 0, false, false}, {"-0", 0, false, false},
		{"00", 0, false, false}, {"01", 0, false, false}, {"-01", 0, false, false}, {"+1", 0, false, false},
		{"x", 0, false, false}, {"1x", 0, false, false}, {"1_0", 0, false, false}, {"0x1", 0, false, false},
		{" 1", 0, false, false}, {"1\r", 0, false, false}, {"\u0661", 0, false, false},
	} {
		if n, ok := rows.Number(c.word, 3); n != c.n || ok != c.number {
			t.Errorf("Number %q: %d %v", c.word, n, ok)
		}
		if n, ok := rows.Natural(c.word, 3); n != max(c.n, 0) || ok != c.natural {
			t.Errorf("Natural %q: %d %v", c.word, n, ok)
		}
	}
}

func TestAll(t *testing.T) {
	words := []string{"1", "-2", "33"}
	if n, ok := rows.All(words, 2, rows.Number); !ok || !slices.Equal(n, []int{1, -2, 33}) {
		t.Error(n, ok)
	}
	if n, ok := rows.All(words, 2, rows.Natural); ok || n != nil {
		t.Error(n, ok)
	}
	if n, ok := rows.All(words, 1, rows.Number); ok || n != nil {
		t.Error(n, ok)
	}
	if n, ok := rows.All(nil, 1, rows.Number); !ok || n != nil {
		t.Error(n, ok)
	}
}
