package lex_test

import (
	"strings"
	"testing"

	"frisket/api"
	"frisket/lex"
)

// P6.1: the chapter's example, and one of each error.
func TestLines(t *testing.T) {
	for _, c := range []struct {
		s    string
		want [][]string
		at   int
		e    api.Errno
	}{
		{"", nil, 0, api.OK},
		{"a bc\n", [][]string{{"a", "bc"}}, 0, api.OK},
		{"a\nbc d e\n!~\n", [][]string{{"a"}, {"bc", "d", "e"}, {"!~"}}, 0, api.OK},
		{"a", nil, 1, api.ErrOpen}, {" ", nil, 1, api.ErrOpen}, {"a\nb", nil, 2, api.ErrOpen}, {"a\nb\n\x00", nil, 3, api.ErrOpen},
		{"\n", nil, 1, api.ErrForm}, {"a\n\n", nil, 2, api.ErrForm}, {"\n\na", nil, 1, api.ErrForm}, {"a\n\nb\n", nil, 2, api.ErrForm},
		{" \n", nil, 1, api.ErrForm}, {" a\n", nil, 1, api.ErrForm}, {"a \n", nil, 1, api.ErrForm}, {"a  b\n", nil, 1, api.ErrForm}, {"a\n b\n", nil, 2, api.ErrForm},
		{"a\tb\n", nil, 1, api.ErrForm}, {"a\r\n", nil, 1, api.ErrForm}, {"é\n", nil, 1, api.ErrForm}, {"\ufeffa\n", nil, 1, api.ErrForm}, {"a\u00a0b\n", nil, 1, api.ErrForm},
	} {
		got, at, e := lex.Lines([]byte(c.s))
		if !same(got, c.want) || at != c.at || e != c.e {
			t.Errorf("Lines(%q): %q, %d, %v, not %q, %d, %v", c.s, got, at, e, c.want, c.at, c.e)
		}
	}
	if got, at, e := lex.Lines(nil); len(got) != 0 || at != 0 || e != api.OK {
		t.Errorf("Lines(nil): %q, %d, %v", got, at, e)
	}
}

// P6.1, P6.4: all texts of few bytes that are of different kinds.
func TestLinesAll(t *testing.T) {
	kinds := " \n!~\x7f"
	texts := []string{""}
	for range 7 {
		var longer []string
		for _, s := range texts {
			reads(t, s)
			for i := range len(kinds) {
				longer = append(longer, s+kinds[i:i+1])
			}
		}
		texts = longer
	}
}

// P6.1: each byte alone, ahead of a word, within one, behind one, and in a later line.
func TestLinesBytes(t *testing.T) {
	for b := range 256 {
		s := string([]byte{byte(b)})
		for _, text := range []string{s, s + "\n", s + "a\n", "a" + s + "a\n", "a" + s + "\n", "a " + s + "\n", s + " a\n", "a b\nc " + s + " d\n", "a\n" + s, "a\nb\n" + s + "\n\n"} {
			reads(t, text)
		}
	}
}

// P6.1: as many bytes of a line as may be, and one more, in words of few and many bytes; and that it is too long is told ahead of its form, and behind its being open.
func TestLinesRest(t *testing.T) {
	for _, most := range []int{1, 2, 7, 1000, 4095, 4096, 5000} {
		for _, long := range []int{1, 2, api.MaxLine - 1, api.MaxLine, api.MaxLine + 1, api.MaxLine + 2, 100000} {
			l := line(long, most)
			for _, s := range []string{l + "\n", l, "a\n" + l + "\n", l + "\n" + l + "\n", l + "\na", l + "\n\n", "a\n" + l, "\n" + l + "\n", " " + l + "\n", l + " \n", strings.Repeat(" ", long) + "\n"} {
				reads(t, s)
			}
		}
	}
	for _, c := range []struct {
		s string
		e api.Errno
	}{
		{strings.Repeat("x", 4096) + "\n", api.OK}, {strings.Repeat("x", 4097) + "\n", api.ErrRest}, {strings.Repeat("x", 4097), api.ErrOpen},
		{strings.Repeat(" ", 4096) + "\n", api.ErrForm}, {strings.Repeat(" ", 4097) + "\n", api.ErrRest}, {strings.Repeat("\x00", 1<<22), api.ErrOpen},
		{strings.Repeat("x ", 2047) + "xx\n", api.OK}, {strings.Repeat("x ", 2048) + "\n", api.ErrForm}, {strings.Repeat("x ", 2048) + "x\n", api.ErrRest},
	} {
		if _, _, e := lex.Lines([]byte(c.s)); e != c.e {
			t.Errorf("Lines of %d bytes (%.5q ..): %v, not %v", len(c.s), c.s, e, c.e)
		}
	}
}

// P6.1: as many lines as may be, and one more: of it nothing else is told, but what is wrong in a line ahead of it is.
func TestLinesMany(t *testing.T) {
	full := strings.Repeat("a b\n", api.MaxLines)
	long := strings.Repeat("x", api.MaxLine+1)
	for _, last := range []string{"", "a\n", "a", "\n", " ", long, long + "\n", "a\nb\n", "\n\n", full} {
		reads(t, full+last)
		reads(t, full[4:]+last)
		reads(t, full[8:]+last)
		for _, wrong := range []string{"\n", " \n", long + "\n"} {
			reads(t, wrong+full+last)
			reads(t, full[8:]+wrong+full+last)
			reads(t, full[4:]+wrong+last)
			reads(t, full+wrong+last)
		}
	}
	for _, last := range []string{"a\n", "a", "\n", "\x00", long, long + "\n", full} {
		if got, at, e := lex.Lines([]byte(full + last)); len(got) != 0 || at != 1001 || e != api.ErrMany {
			t.Errorf("Lines of 1000 lines and %.5q: %d lines, %d, %v", last, len(got), at, e)
		}
	}
	if got, at, e := lex.Lines([]byte(full)); len(got) != 1000 || at != 0 || e != api.OK {
		t.Errorf("Lines of 1000 lines: %d lines, %d, %v", len(got), at, e)
	}
	widest := strings.Repeat(line(api.MaxLine, 1)+"\n", api.MaxLines)
	reads(t, widest)
	reads(t, widest+"a")
}

// P6.1, P6.4
func TestLinesDice(t *testing.T) {
	d := dice(3)
	for range 20000 {
		reads(t, d.text(12))
		reads(t, d.text(40)+"\n")
	}
	for range 50 {
		var text strings.Builder
		for range d.roll(1010) {
			for range d.roll(6) {
				text.WriteString(d.word(9) + " ")
			}
			text.WriteString(d.word(20) + "\n")
		}
		reads(t, text.String())
	}
}

// R3: what is answered is its own: neither what becomes of the text nor what is put to one line changes another one.
func TestLinesOwn(t *testing.T) {
	b := []byte("a bc d\ne f\ng\n")
	got, _, _ := lex.Lines(b)
	for i := range b {
		b[i] = '?'
	}
	want := [][]string{{"a", "bc", "d"}, {"e", "f"}, {"g"}}
	if !same(got, want) {
		t.Errorf("what was read hangs on the text: %q", got)
	}
	for i := range got {
		_ = append(got[i], "more")
		_ = append(got[i][:0], "less")
		want[i][0] = "less"
		if !same(got, want) {
			t.Errorf("what is put to line %d changed another one: %q", i+1, got)
		}
	}
	for i, row := range got {
		if cap(row) != len(row) {
			t.Errorf("line %d has room behind it", i+1)
		}
	}
	again, _, _ := lex.Lines([]byte("a b\n"))
	twice, _, _ := lex.Lines([]byte("a b\n"))
	again[0][0] = "?"
	if twice[0][0] != "a" {
		t.Error("two answers share a line")
	}
}
