package frac_test

import (
	"strings"
	"testing"

	"frisket/api"
	"frisket/frac"
)

// told holds a fraction's text against the library's, and reads it again.
func told(t *testing.T, a api.Frac) {
	t.Helper()
	s := frac.Text(a)
	if want := worth(a).RatString(); s != want {
		t.Errorf("Text(%v): %s, not %s", a, s, want)
	}
	if b, e := frac.Parse(s); e != api.OK || !same(b, frac.Reduce(a)) {
		t.Errorf("Parse(%s): %v, %v", s, b, e)
	}
}

// P4.4
func TestText(t *testing.T) {
	for _, a := range edges() {
		told(t, a)
	}
	d := dice(8)
	for range 1000 {
		told(t, d.number(30))
		told(t, d.small())
	}
	for _, c := range []struct {
		n, d int
		want string
	}{{6, 4, "3/2"}, {-6, 4, "-3/2"}, {6, 3, "2"}, {-6, 3, "-2"}, {0, 5, "0"}, {5, 0, "0"}, {-5, 0, "0"}, {1, 10, "1/10"}, {-1, 1, "-1"}} {
		if got := frac.Text(of(c.n, c.d)); got != c.want {
			t.Errorf("Text of %d by %d: %s, not %s", c.n, c.d, got, c.want)
		}
	}
	long := make([]uint32, 400)
	long[300] = 1
	for _, a := range []api.Frac{f(true, long, []uint32{7}), f(false, []uint32{7}, long), f(true, long, nil)} {
		if got, want := frac.Text(a), worth(a).RatString(); got != want {
			t.Errorf("a text of more than MaxDigits digits: %s, not %s", got, want)
		}
	}
}

// P4.4
func TestParse(t *testing.T) {
	for _, c := range []struct {
		s    string
		want api.Frac
	}{
		{"0", f(false, nil, []uint32{1})}, {"1", f(false, []uint32{1}, []uint32{1})}, {"-10", f(true, []uint32{10}, []uint32{1})},
		{"1/2", f(false, []uint32{1}, []uint32{2})}, {"-3/2", f(true, []uint32{3}, []uint32{2})}, {"-1/4294967296", f(true, []uint32{1}, []uint32{0, 1})},
		{"18446744073709551616/3", f(false, []uint32{0, 0, 1}, []uint32{3})}, {"7/100", f(false, []uint32{7}, []uint32{100})},
	} {
		if got, e := frac.Parse(c.s); e != api.OK || !same(got, c.want) {
			t.Errorf("Parse(%q): %v, %v, not %v", c.s, got, e, c.want)
		}
	}
}

// P4.4: of small parts just those that are a fraction's text.
func TestParseSmall(t *testing.T) {
	texts := map[string]int{}
	for n := -12; n <= 12; n++ {
		for d := range 13 {
			texts[frac.Text(of(n, d))]++
		}
	}
	for _, n := range []string{"-12", "-7", "-6", "-4", "-3", "-2", "-1", "-0", "0", "1", "2", "3", "4", "5", "6", "9", "12", "", "-", "01", "+1"} {
		for _, d := range []string{"", "/", "/0", "/1", "/2", "/3", "/4", "/6", "/12", "/-1", "/-2", "/+2", "/02", "//2", "/2/", "/2/3", " /2", "/ 2", "/2 "} {
			a, e := frac.Parse(n + d)
			right := texts[n+d] > 0
			if right != (e == api.OK) || !right && (e != api.ErrForm || !zero(a)) {
				t.Errorf("Parse(%q): %v, %v", n+d, a, e)
			}
			if right && frac.Text(a) != n+d {
				t.Errorf("Parse(%q): %s", n+d, frac.Text(a))
			}
		}
	}
}

// P4.4: texts that are no fraction's.
func TestParseForm(t *testing.T) {
	for _, s := range []string{
		"", "/", "//", "1/", "/1", "/2", "-", "-/2", "1//2", "1/2/", "/1/2", "1/2/3", "1/1", "0/1", "0/2", "2/4", "6/4", "-2/4", "4/2", "-0", "-0/2", "0/0", "1/0", "-1/0", "1/00",
		"1/-2", "-1/-2", "1/+2", "+1/2", "--1/2", "01/2", "1/02", "00", "-01/2", " 1/2", "1/2 ", "1 /2", "1/ 2", "1 2", "1/2\n", "1/2\x00", "\t1/2",
		"1.5", "1/2.5", "1e3/7", "0x1/3", "1/0x3", "1:2", "1\\2", "1÷2", "½", "1⁄2", "1∕2", "१/२", "1/２", "−1/2", "a/b", "1/b", "\xff/2", "1/\xff",
		"4294967296/4294967298", "18446744073709551616/18446744073709551615000000000000000000000000000000002",
	} {
		if a, e := frac.Parse(s); e != api.ErrForm || !zero(a) {
			t.Errorf("Parse(%q): %v, %v", s, a, e)
		}
	}
}

// P4.4: as many digits of a part as may be, and one more.
func TestParseLong(t *testing.T) {
	nines := strings.Repeat("9", api.MaxDigits)
	tens := "1" + strings.Repeat("0", api.MaxDigits-1)
	for _, c := range []struct {
		s    string
		want api.Errno
	}{
		{nines, api.OK}, {"-" + nines, api.OK}, {nines + "9", api.ErrForm}, {"-" + nines + "9", api.ErrForm},
		{nines + "/" + tens, api.OK}, {"-" + nines + "/" + tens, api.OK}, {tens + "/" + nines, api.OK}, {"1/" + nines, api.OK}, {nines + "/2", api.OK},
		{nines + "9/2", api.ErrForm}, {"-" + nines + "9/2", api.ErrForm}, {"1/" + nines + "9", api.ErrForm}, {nines + "/" + tens + "0", api.ErrForm}, {tens + "0/" + nines, api.ErrForm},
		{nines + "/3", api.ErrForm}, {nines + "/" + nines, api.ErrForm}, {tens + "/2", api.ErrForm}, {"-" + tens + "/" + tens[:50], api.ErrForm},
		{nines + "/", api.ErrForm}, {"/" + nines, api.ErrForm}, {strings.Repeat("0", api.MaxDigits+1), api.ErrForm}, {strings.Repeat("/", 1<<20), api.ErrForm},
		{strings.Repeat("9", 1<<20), api.ErrForm}, {"1/" + strings.Repeat("9", 1<<20), api.ErrForm},
	} {
		a, e := frac.Parse(c.s)
		if e != c.want || e != api.OK && !zero(a) {
			t.Errorf("Parse of %d bytes (%.5s ..): %v, %v, not %v", len(c.s), c.s, a, e, c.want)
		}
		if e == api.OK && frac.Text(a) != c.s {
			t.Errorf("Parse of %d bytes (%.5s ..): %s", len(c.s), c.s, frac.Text(a))
		}
	}
}
