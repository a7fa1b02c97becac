package nat_test

import (
	"math/big"
	"slices"
	"strings"
	"testing"

	"frisket/api"
	"frisket/nat"
)

// told holds a number's text against the library's, and reads it again.
func told(t *testing.T, a []uint32) {
	t.Helper()
	s := nat.Text(a)
	if want := worth(a).String(); s != want {
		t.Errorf("Text(%v): %s, not %s", a, s, want)
	}
	if b, e := nat.Parse(s); e != api.OK || !slices.Equal(b, nat.Trim(a)) {
		t.Errorf("Parse(%s): %v, %v", s, b, e)
	}
}

// P1.4
func TestTextOfMany(t *testing.T) {
	for _, a := range edges() {
		told(t, a)
	}
	d := dice(3)
	for range 2000 {
		told(t, d.number(30))
	}
	if nat.Text(nil) != "0" || nat.Text([]uint32{0, 0}) != "0" {
		t.Error("0")
	}
	long := d.number(1000)
	for len(long) < 500 {
		long = d.number(1000)
	}
	if got, want := nat.Text(long), worth(long).String(); got != want {
		t.Errorf("a text of more than MaxDigits digits: %s, not %s", got, want)
	}
}

// P1.4: what is at, below and above each power of 10.
func TestTextOfTens(t *testing.T) {
	for n := range 120 {
		tens := new(big.Int).Exp(big.NewInt(10), big.NewInt(int64(n)), nil)
		for _, more := range []int64{-1, 0, 1} {
			s := new(big.Int).Add(tens, big.NewInt(more)).String()
			a, e := nat.Parse(s)
			if e != api.OK {
				t.Errorf("Parse(%s): %v", s, e)
			}
			want, _ := new(big.Int).SetString(s, 10)
			is(t, "Parse", a, want)
			if got := nat.Text(a); got != s {
				t.Errorf("Text: %s, not %s", got, s)
			}
		}
	}
}

// P1.4: texts that are no number's.
func TestParseForm(t *testing.T) {
	for _, s := range []string{
		"", " ", "00", "01", "000000000", "0000000001", "-", "-0", "-1", "+1", "+", " 1", "1 ", "1\n", "\t1", "1\x00", "\x00",
		"1.0", "1,000", "1_000", "1e3", "0x10", "ff", "a", "/", ":", "1/", "1:", "1/2", "12345678a", "123456789a", "a123456789", "1234567890123456789012345a",
		"१२", "1२", "١", "\xff", "1\xb1", "½", "１",
	} {
		if a, e := nat.Parse(s); e != api.ErrForm || len(a) != 0 {
			t.Errorf("Parse(%q): %v, %v", s, a, e)
		}
	}
}

// P1.4: as many bytes as may be, and one more.
func TestParseLong(t *testing.T) {
	nines := strings.Repeat("9", api.MaxDigits)
	a, e := nat.Parse(nines)
	want, _ := new(big.Int).SetString(nines, 10)
	if e != api.OK || nat.Text(a) != nines {
		t.Errorf("MaxDigits nines: %v", e)
	}
	is(t, "Parse", a, want)
	for _, c := range []struct {
		s    string
		want api.Errno
	}{
		{nines + "9", api.ErrRange}, {strings.Repeat("0", api.MaxDigits+1), api.ErrRange}, {strings.Repeat("x", api.MaxDigits+1), api.ErrRange},
		{strings.Repeat("x", api.MaxDigits), api.ErrForm}, {strings.Repeat("0", api.MaxDigits), api.ErrForm},
		{nines[1:] + " ", api.ErrForm}, {nines[2:] + "½", api.ErrForm}, {nines[1:] + "½", api.ErrRange}, {strings.Repeat("9", 1<<20), api.ErrRange},
	} {
		if a, e := nat.Parse(c.s); e != c.want || len(a) != 0 {
			t.Errorf("Parse of %d bytes (%.5s ..): %v, %v, not %v", len(c.s), c.s, a, e, c.want)
		}
	}
	for n := 1; n <= api.MaxDigits; n += 37 {
		s := "1" + strings.Repeat("0", n-1)
		if a, e := nat.Parse(s); e != api.OK || nat.Text(a) != s {
			t.Errorf("10^%d: %s, %v", n-1, nat.Text(a), e)
		}
	}
}
