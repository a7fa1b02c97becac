package whole_test

import (
	"strconv"
	"strings"
	"testing"

	"frisket/api"
	"frisket/whole"
)

// told holds a number's text against the library's, and reads it again.
func told(t *testing.T, a api.Whole) {
	t.Helper()
	s := whole.Text(a)
	if want := worth(a).String(); s != want {
		t.Errorf("Text(%v): %s, not %s", a, s, want)
	}
	if b, e := whole.Parse(s); e != api.OK || !same(b, whole.Make(a.Neg, a.Abs)) {
		t.Errorf("Parse(%s): %v, %v", s, b, e)
	}
}

// P2.3
func TestText(t *testing.T) {
	for _, a := range edges() {
		told(t, a)
	}
	for _, n := range ints() {
		if got, want := whole.Text(whole.Of(n)), strconv.Itoa(n); got != want {
			t.Errorf("Text: %s, not %s", got, want)
		}
	}
	d := dice(5)
	for range 1000 {
		told(t, d.number(30))
	}
	for _, a := range []api.Whole{w(false), w(true), w(true, 0), w(true, 0, 0)} {
		if got := whole.Text(a); got != "0" {
			t.Errorf("Text(%v): %s", a, got)
		}
	}
	long := w(true, make([]uint32, 400)...)
	long.Abs[300] = 1
	if got, want := whole.Text(long), worth(long).String(); len(want) <= api.MaxDigits || got != want {
		t.Errorf("a text of more than MaxDigits digits: %s, not %s", got, want)
	}
}

// P2.3
func TestParse(t *testing.T) {
	for _, c := range []struct {
		s    string
		want api.Whole
	}{
		{"0", w(false)}, {"1", w(false, 1)}, {"-1", w(true, 1)}, {"-10", w(true, 10)}, {"4294967295", w(false, top)}, {"-4294967296", w(true, 0, 1)},
		{"-18446744073709551616", w(true, 0, 0, 1)}, {"18446744073709551615", w(false, top, top)},
	} {
		if got, e := whole.Parse(c.s); e != api.OK || !same(got, c.want) {
			t.Errorf("Parse(%q): %v, %v, not %v", c.s, got, e, c.want)
		}
	}
}

// P2.3: texts that are no number's.
func TestParseForm(t *testing.T) {
	for _, s := range []string{
		"", "-", "--", "-0", "--0", "--1", "---1", "-00", "-01", "00", "01", "007", "-000000000000", "+1", "+", "+-1", "-+1", "+0",
		" ", " 1", "1 ", "- 1", " -1", "-1 ", "-1\n", "\t-1", "-1\x00", "1-", "1-1", "-1-", "-1-1", "5-3",
		"1.0", "-1.5", "1,000", "1_000", "-1_000", "1e3", "-1e3", "0x10", "-0x10", "ff", "-a", "1/2", "-1/2", "(1)",
		"−1", "–1", "‐1", "-१", "१", "-１", "\xff", "-\xff", "\xad1", "-½",
	} {
		if a, e := whole.Parse(s); e != api.ErrForm || !zero(a) {
			t.Errorf("Parse(%q): %v, %v", s, a, e)
		}
	}
}

// P2.3: as many bytes behind the - as may be, and one more: ahead of what is wrong with them.
func TestParseLong(t *testing.T) {
	nines, xs := strings.Repeat("9", api.MaxDigits), strings.Repeat("x", api.MaxDigits)
	noughts := strings.Repeat("0", api.MaxDigits)
	for _, c := range []struct {
		s    string
		want api.Errno
	}{
		{nines, api.OK}, {"-" + nines, api.OK}, {nines[1:], api.OK}, {"-" + nines[1:], api.OK},
		{nines + "9", api.ErrRange}, {"-" + nines + "9", api.ErrRange},
		{xs, api.ErrForm}, {"-" + xs, api.ErrForm}, {xs + "x", api.ErrRange}, {"-" + xs + "x", api.ErrRange},
		{noughts, api.ErrForm}, {"-" + noughts, api.ErrForm}, {noughts + "0", api.ErrRange}, {"-" + noughts + "0", api.ErrRange},
		{"--" + nines[1:], api.ErrForm}, {"--" + nines, api.ErrRange}, {"+" + nines[1:], api.ErrForm}, {"+" + nines, api.ErrRange},
		{"-" + nines + " ", api.ErrRange}, {strings.Repeat("-", 1<<20), api.ErrRange}, {"-" + strings.Repeat("9", 1<<20), api.ErrRange},
	} {
		a, e := whole.Parse(c.s)
		if e != c.want || e != api.OK && !zero(a) {
			t.Errorf("Parse of %d bytes (%.5s ..): %v, %v, not %v", len(c.s), c.s, a, e, c.want)
		}
		if e == api.OK && whole.Text(a) != c.s {
			t.Errorf("Parse of %d bytes (%.5s ..): %s", len(c.s), c.s, whole.Text(a))
		}
	}
}
