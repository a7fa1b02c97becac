package spot_test

import (
	"strings"
	"testing"

	"frisket/api"
	"frisket/spot"
)

// told holds a spot's text against the library's, and reads it again.
func told(t *testing.T, a api.Spot) {
	t.Helper()
	s := spot.Text(a)
	if want := worths(a); s != want.x.RatString()+" "+want.y.RatString() {
		t.Errorf("Text(%v): %s, not %v %v", a, s, want.x, want.y)
	}
	b, e := spot.Parse(s)
	if e != api.OK {
		t.Errorf("Parse(%q): %v", s, e)
	}
	is(t, "Parse of Text", b, worths(a))
}

// P5.3
func TestText(t *testing.T) {
	for _, a := range spots() {
		told(t, a)
	}
	d := dice(11)
	for range 1000 {
		told(t, d.spot(20))
	}
	for _, c := range []struct {
		a    api.Spot
		want string
	}{
		{at(0, 0), "0 0"}, {api.Spot{}, "0 0"}, {at(-3, 12), "-3 12"}, {api.Spot{X: of(6, 4), Y: of(-6, 3)}, "3/2 -2"}, {api.Spot{X: of(5, 0), Y: of(-1, 10)}, "0 -1/10"},
	} {
		if got := spot.Text(c.a); got != c.want {
			t.Errorf("Text(%v): %q, not %q", c.a, got, c.want)
		}
	}
	long := make([]uint32, 400)
	long[300] = 1
	a := api.Spot{X: f(true, long, []uint32{7}), Y: f(false, []uint32{7}, long)}
	if got, want := spot.Text(a), worths(a); got != want.x.RatString()+" "+want.y.RatString() {
		t.Errorf("a text of more than MaxDigits digits: %s", got)
	}
	if b, e := spot.Parse(spot.Text(a)); e != api.ErrForm || !zero(b) {
		t.Errorf("Parse of a text of more than MaxDigits digits: %v, %v", b, e)
	}
}

// P5.3
func TestParse(t *testing.T) {
	for _, c := range []struct {
		s    string
		want api.Spot
	}{
		{"0 0", api.Spot{X: f(false, nil, []uint32{1}), Y: f(false, nil, []uint32{1})}}, {"1 -2", at(1, -2)}, {"-3/2 7/100", api.Spot{X: of(-3, 2), Y: of(7, 100)}},
		{"4294967296 -1/18446744073709551616", api.Spot{X: f(false, []uint32{0, 1}, []uint32{1}), Y: f(true, []uint32{1}, []uint32{0, 0, 1})}},
	} {
		if got, e := spot.Parse(c.s); e != api.OK || !alike(got, c.want) {
			t.Errorf("Parse(%q): %v, %v, not %v", c.s, got, e, c.want)
		}
	}
}

// P5.3: texts that are no spot's: each wrong part ahead of a right one, behind one, and in both places.
func TestParseForm(t *testing.T) {
	for _, s := range []string{
		"", "-", "-0", "+1", "01", "00", "0/1", "0/2", "1/1", "2/4", "4/2", "1/0", "0/0", "1/-2", "1/", "/2", "/", "1//2", "1/2/3", "--1", "1.5", "1e3", "a", "½", "−1", "１", "\x00", "\xff", "1\n", "\t1", "1,", "(1", "1/02", "-0/3",
	} {
		for _, whole := range []string{s + " 1", "1 " + s, s + " -1/2", "-1/2 " + s, s + " " + s, s} {
			if a, e := spot.Parse(whole); e != api.ErrForm || !zero(a) {
				t.Errorf("Parse(%q): %v, %v", whole, a, e)
			}
		}
	}
	for _, s := range []string{
		"1", "-1/2", " ", "  ", "1 ", " 1", "1  2", " 1 2", "1 2 ", "1 2 3", "1 2\n", "\n1 2", "1\t2", "1\n2", "1\u00a02", "1\u20032", "1,2", "1, 2", "1;2", "(1 2)", "12", "1/2/3 4", "1/ 2 3", "1 /2 3", "1 2/", "1 2 /3",
		strings.Repeat(" ", 1<<20), strings.Repeat("1 ", 1<<19), "1 " + strings.Repeat("9", 1<<20), strings.Repeat("9", 1<<20) + " 1",
	} {
		if a, e := spot.Parse(s); e != api.ErrForm || !zero(a) {
			t.Errorf("Parse(%.40q): %v, %v", s, a, e)
		}
	}
}

// P5.3: as many digits of a part as may be, and one more.
func TestParseLong(t *testing.T) {
	nines := strings.Repeat("9", api.MaxDigits)
	tens := "1" + strings.Repeat("0", api.MaxDigits-1)
	long := []string{nines, "-" + nines, nines + "/" + tens, "-" + tens + "/" + nines, "1/" + nines}
	for _, x := range long {
		for _, y := range append(long, "0") {
			for _, s := range []string{x + " " + y, y + " " + x} {
				if a, e := spot.Parse(s); e != api.OK || spot.Text(a) != s {
					t.Errorf("Parse of %d bytes (%.5s ..): %v", len(s), s, e)
				}
			}
		}
	}
	for _, x := range []string{nines + "9", "-" + nines + "9", nines + "/" + tens + "0", "-" + tens + "0/" + nines, "1/" + nines + "9", "0" + nines} {
		for _, y := range append(long, "0", x) {
			for _, s := range []string{x + " " + y, y + " " + x} {
				if a, e := spot.Parse(s); e != api.ErrForm || !zero(a) {
					t.Errorf("Parse of %d bytes (%.5s ..): %v, %v", len(s), s, a, e)
				}
			}
		}
	}
}
