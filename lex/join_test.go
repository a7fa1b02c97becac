package lex_test

import (
	"slices"
	"strings"
	"testing"

	"frisket/api"
	"frisket/lex"
)

// P6.2: one of each error, and of none.
func TestJoin(t *testing.T) {
	for _, c := range []struct {
		l    [][]string
		want string
		at   int
		e    api.Errno
	}{
		{nil, "", 0, api.OK}, {[][]string{}, "", 0, api.OK},
		{[][]string{{"a", "bc"}}, "a bc\n", 0, api.OK},
		{[][]string{{"a"}, {"bc", "d", "e"}, {"!~"}}, "a\nbc d e\n!~\n", 0, api.OK},
		{[][]string{{}}, "", 1, api.ErrForm}, {[][]string{nil}, "", 1, api.ErrForm}, {[][]string{{"a"}, nil, {"b"}}, "", 2, api.ErrForm},
		{[][]string{{""}}, "", 1, api.ErrForm}, {[][]string{{"a", ""}}, "", 1, api.ErrForm}, {[][]string{{"", "a"}}, "", 1, api.ErrForm}, {[][]string{{"a"}, {"b", "", "c"}}, "", 2, api.ErrForm},
		{[][]string{{"a b"}}, "", 1, api.ErrForm}, {[][]string{{"a\n"}}, "", 1, api.ErrForm}, {[][]string{{"a\nb"}}, "", 1, api.ErrForm}, {[][]string{{"a", "b"}, {"c", "d "}}, "", 2, api.ErrForm},
		{[][]string{{"é"}}, "", 1, api.ErrForm}, {[][]string{{"a", "\x7f"}}, "", 1, api.ErrForm},
	} {
		got, at, e := lex.Join(c.l)
		if string(got) != c.want || at != c.at || e != c.e {
			t.Errorf("Join(%q): %q, %d, %v, not %q, %d, %v", c.l, got, at, e, c.want, c.at, c.e)
		}
	}
}

// P6.2, P6.4: all lists of few lines of few texts.
func TestJoinAll(t *testing.T) {
	texts := []string{"a", "!~", "", " ", "\n", "\x7f"}
	kinds := [][]string{nil}
	for _, a := range texts {
		kinds = append(kinds, []string{a})
		for _, b := range texts {
			kinds = append(kinds, []string{a, b})
		}
	}
	for _, a := range kinds {
		joins(t, [][]string{a})
		for _, b := range kinds {
			joins(t, [][]string{a, b})
			joins(t, [][]string{{"a"}, a, b})
			for _, c := range kinds {
				joins(t, [][]string{a, b, c})
			}
		}
	}
}

// P6.2: as many bytes of a line as may be, and one more; too long is told ahead of the form.
func TestJoinRest(t *testing.T) {
	for _, most := range []int{1, 2, 7, 1000, 4095, 4096, 5000} {
		for _, long := range []int{1, 2, api.MaxLine - 1, api.MaxLine, api.MaxLine + 1, api.MaxLine + 2, 100000} {
			row := strings.Split(line(long, most), " ")
			for _, l := range [][][]string{{row}, {{"a"}, row}, {row, row}, {row, {}}, {{}, row}, {append([]string{""}, row...)}, {append(row[:len(row):len(row)], "")}, {append(row[:len(row):len(row)], "\n")}} {
				joins(t, l)
			}
		}
	}
	huge := strings.Repeat("x", 1<<20)
	for _, c := range []struct {
		row []string
		e   api.Errno
	}{
		{make([]string, 4097), api.ErrForm}, {make([]string, 4098), api.ErrRest}, {make([]string, 1<<20), api.ErrRest}, {[]string{strings.Repeat("\n", 4096)}, api.ErrForm}, {[]string{strings.Repeat("\n", 4097)}, api.ErrRest},
		{slices.Repeat([]string{huge}, 1<<10), api.ErrRest}, {[]string{strings.Repeat("x", 4096)}, api.OK}, {[]string{strings.Repeat("x", 4095), ""}, api.ErrForm}, {[]string{strings.Repeat("x", 4096), ""}, api.ErrRest},
	} {
		if got, at, e := lex.Join([][]string{{"a"}, c.row}); e != c.e || e != api.OK && (len(got) > 0 || at != 2) {
			t.Errorf("Join of a line of %d texts: %d bytes, %d, %v, not %v", len(c.row), len(got), at, e, c.e)
		}
	}
}

// P6.2: as many lines as may be, and one more, whatever that one is; what is wrong in a line ahead of it is told.
func TestJoinMany(t *testing.T) {
	full := rows(api.MaxLines, "a", "b")
	long := []string{strings.Repeat("x", api.MaxLine+1)}
	ends := [][][]string{nil, {{"a"}}, {nil}, {{""}}, {long}, {{"a"}, {"b"}}, full}
	for _, last := range ends {
		joins(t, append(slices.Clone(full), last...))
		joins(t, append(slices.Clone(full[1:]), last...))
		joins(t, append(slices.Clone(full[2:]), last...))
		for _, wrong := range [][]string{nil, {""}, long} {
			joins(t, append([][]string{wrong}, append(slices.Clone(full), last...)...))
			joins(t, append(append(slices.Clone(full[1:]), wrong), last...))
			joins(t, append(append(slices.Clone(full), wrong), last...))
		}
	}
	for _, last := range ends[1:] {
		if got, at, e := lex.Join(append(slices.Clone(full), last...)); len(got) != 0 || at != 1001 || e != api.ErrMany {
			t.Errorf("Join of 1000 lines and %d: %d bytes, %d, %v", len(last), len(got), at, e)
		}
	}
	joins(t, rows(api.MaxLines, strings.Split(line(api.MaxLine, 1), " ")...))
	joins(t, rows(1<<20))
}

// P6.2, P6.4
func TestJoinDice(t *testing.T) {
	d := dice(5)
	for range 20000 {
		l := make([][]string, d.roll(4))
		for i := range l {
			for range 1 + d.roll(4) {
				l[i] = append(l[i], d.word(6))
			}
			if d.roll(9) == 0 {
				l[i][d.roll(len(l[i]))] = d.text(5)
			}
		}
		joins(t, l)
	}
}

// R3: what is handed in isn't changed, and what is answered is its own.
func TestJoinOwn(t *testing.T) {
	l := [][]string{[]string{"a", "bc", "?"}[:2], {"d"}}
	got, _, _ := lex.Join(l)
	if l[0][0] != "a" || l[0][1] != "bc" || l[0][:3][2] != "?" || l[1][0] != "d" {
		t.Errorf("Join changed what it was handed: %q", l)
	}
	again, _, _ := lex.Join(l)
	for i := range got {
		got[i] = '?'
	}
	if string(again) != "a bc\nd\n" {
		t.Errorf("two answers share bytes: %q", again)
	}
	if cap(again) != len(again) {
		t.Error("the text has room behind it")
	}
}
