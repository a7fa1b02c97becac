package figure_test

import (
	"math"
	"slices"
	"strconv"
	"strings"
	"testing"

	"frisket/api"
	"frisket/figure"
)

// P7.1
func TestNum(t *testing.T) {
	for _, c := range []struct {
		n    int
		want string
	}{
		{0, "0"}, {7, "7"}, {-7, "-7"}, {10, "10"}, {-10, "-10"}, {-12, "-12"}, {100, "100"}, {api.MaxCoord, "8388607"}, {-api.MaxCoord, "-8388607"},
		{math.MaxInt64, "9223372036854775807"}, {math.MinInt64, "-9223372036854775808"},
	} {
		if got := figure.Num(c.n); got != c.want {
			t.Errorf("Num(%d): %q, not %q", c.n, got, c.want)
		}
	}
	for _, n := range ints() {
		if got, want := figure.Num(n), strconv.Itoa(n); got != want {
			t.Errorf("Num(%d): %q", n, got)
		}
	}
}

// P7.1: the chapter's example, and one of each error.
func TestRead(t *testing.T) {
	for _, c := range []struct {
		s      string
		lo, hi int
		want   int
		e      api.Errno
	}{
		{"-12", -20, 20, -12, api.OK}, {"0", 0, 0, 0, api.OK}, {"0", -5, 5, 0, api.OK}, {"255", 0, 255, 255, api.OK}, {"-20", -20, 20, -20, api.OK},
		{"256", 0, 255, 0, api.ErrRange}, {"-1", 0, 255, 0, api.ErrRange}, {"0", 1, 2, 0, api.ErrRange}, {"3", 4, 2, 0, api.ErrRange}, {"0", 1, 0, 0, api.ErrRange}, {"-21", -20, 20, 0, api.ErrRange},
		{"9223372036854775807", math.MinInt, math.MaxInt, math.MaxInt, api.OK}, {"-9223372036854775808", math.MinInt, math.MaxInt, math.MinInt, api.OK},
		{"9223372036854775808", math.MinInt, math.MaxInt, 0, api.ErrRange}, {"-9223372036854775809", math.MinInt, math.MaxInt, 0, api.ErrRange}, {"18446744073709551616", 0, 0, 0, api.ErrRange}, {"-18446744073709551617", -1, -1, 0, api.ErrRange},
		{"", -20, 20, 0, api.ErrForm}, {"-", -20, 20, 0, api.ErrForm}, {"-0", -20, 20, 0, api.ErrForm}, {"+1", -20, 20, 0, api.ErrForm}, {"01", -20, 20, 0, api.ErrForm}, {"-01", -20, 20, 0, api.ErrForm}, {"1 ", -20, 20, 0, api.ErrForm},
	} {
		if got, e := figure.Read(c.s, c.lo, c.hi); got != c.want || e != c.e {
			t.Errorf("Read(%q, %d, %d): %d, %v, not %d, %v", c.s, c.lo, c.hi, got, e, c.want, c.e)
		}
	}
}

// P7.1, P7.4: what is told is read as it was, just where its limits let it.
func TestReadOfNum(t *testing.T) {
	for _, n := range ints() {
		s := figure.Num(n)
		if got, e := figure.Read(s, math.MinInt, math.MaxInt); got != n || e != api.OK {
			t.Errorf("Read(%q): %d, %v", s, got, e)
		}
		for _, l := range limits() {
			reads(t, s, l[0], l[1])
		}
		reads(t, s, n, n)
		if n > math.MinInt {
			reads(t, s, n-1, n)
			reads(t, s, n-1, n-1)
		}
		if n < math.MaxInt {
			reads(t, s, n, n+1)
			reads(t, s, n+1, n+1)
		}
	}
}

// P7.1: texts that are no number's: that comes ahead of the limits, whatever these are.
func TestReadForm(t *testing.T) {
	for _, s := range wrong() {
		for _, l := range limits() {
			if n, e := figure.Read(s, l[0], l[1]); n != 0 || e != api.ErrForm {
				t.Errorf("Read(%q, %d, %d): %d, %v", s, l[0], l[1], n, e)
			}
		}
	}
	for b := range 256 {
		c := string([]byte{byte(b)})
		for _, s := range []string{c, c + "1", "1" + c, "1" + c + "1", "-" + c, "-" + c + "1", "-1" + c, c + "-1", c + "0", "0" + c} {
			reads(t, s, -1000, 1000)
		}
	}
	for c := rune(0); c < 0x3000; c++ {
		reads(t, string(c), -1000, 1000)
		reads(t, "1"+string(c), -1000, 1000)
	}
}

// P7.1: all texts of few bytes that are of different kinds.
func TestReadAll(t *testing.T) {
	kinds := "-019+ /:"
	texts := []string{""}
	for range 6 {
		var longer []string
		for _, s := range texts {
			reads(t, s, -100, 100)
			for i := range len(kinds) {
				longer = append(longer, s+kinds[i:i+1])
			}
		}
		texts = longer
	}
}

// P7.1: however great a number is, its text is of the form; it is beyond all limits, where it is no int.
func TestReadGreat(t *testing.T) {
	for _, s := range beyond() {
		for _, l := range limits() {
			reads(t, s, l[0], l[1])
		}
		reads(t, s+" ", math.MinInt, math.MaxInt)
		reads(t, "0"+s, math.MinInt, math.MaxInt)
	}
	for _, long := range []int{100, 2000, 2001, 4096, 1 << 20} {
		nines := strings.Repeat("9", long)
		for _, c := range []struct {
			s string
			e api.Errno
		}{
			{nines, api.ErrRange}, {"-" + nines, api.ErrRange}, {"1" + strings.Repeat("0", long), api.ErrRange}, {"-1" + strings.Repeat("0", long), api.ErrRange},
			{"0" + nines, api.ErrForm}, {"-0" + nines, api.ErrForm}, {nines + "a", api.ErrForm}, {nines + "-", api.ErrForm}, {nines + " ", api.ErrForm}, {"+" + nines, api.ErrForm}, {"--" + nines, api.ErrForm},
			{strings.Repeat("0", long), api.ErrForm}, {strings.Repeat("0", long) + "1", api.ErrForm}, {strings.Repeat("-", long), api.ErrForm},
		} {
			if n, e := figure.Read(c.s, math.MinInt, math.MaxInt); n != 0 || e != c.e {
				t.Errorf("Read of %d bytes (%.3s ..): %d, %v, not %v", len(c.s), c.s, n, e, c.e)
			}
		}
	}
}

// P7.1, P7.4
func TestReadDice(t *testing.T) {
	d := dice(3)
	for range 50000 {
		lo, hi := d.int(), d.int()
		reads(t, figure.Num(d.int()), lo, hi)
		reads(t, figure.Num(d.int()), hi, lo)
		reads(t, d.letters(22, "0123456789"), math.MinInt, math.MaxInt)
		reads(t, "-"+d.letters(22, "0123456789"), math.MinInt, math.MaxInt)
		reads(t, d.letters(5, "-0123456789 a"), -9999, 9999)
	}
}

// P7.2
func TestNums(t *testing.T) {
	for _, c := range []struct {
		l      []string
		lo, hi int
		want   []int
		at     int
		e      api.Errno
	}{
		{nil, 0, 9, nil, 0, api.OK}, {[]string{}, 0, 9, nil, 0, api.OK}, {nil, 9, 0, nil, 0, api.OK},
		{[]string{"5"}, 0, 9, []int{5}, 0, api.OK}, {[]string{"3", "-1", "3", "0"}, -1, 3, []int{3, -1, 3, 0}, 0, api.OK},
		{[]string{""}, 0, 9, nil, 0, api.ErrForm}, {[]string{"10"}, 0, 9, nil, 0, api.ErrRange},
		{[]string{"1", "2", "x"}, 0, 9, nil, 2, api.ErrForm}, {[]string{"1", "10", "2"}, 0, 9, nil, 1, api.ErrRange},
		{[]string{"1", "10", "x"}, 0, 9, nil, 1, api.ErrRange}, {[]string{"1", "x", "10"}, 0, 9, nil, 1, api.ErrForm}, {[]string{"x", "10"}, 0, 9, nil, 0, api.ErrForm}, {[]string{"10", "x"}, 0, 9, nil, 0, api.ErrRange},
		{[]string{"1", "2", "99999999999999999999"}, math.MinInt, math.MaxInt, nil, 2, api.ErrRange}, {[]string{"1"}, 9, 0, nil, 0, api.ErrRange}, {[]string{"01"}, 9, 0, nil, 0, api.ErrForm},
	} {
		got, at, e := figure.Nums(c.l, c.lo, c.hi)
		if !slices.Equal(got, c.want) || at != c.at || e != c.e {
			t.Errorf("Nums(%q, %d, %d): %d, %d, %v, not %d, %d, %v", c.l, c.lo, c.hi, got, at, e, c.want, c.at, c.e)
		}
	}
}

// P7.2: each word wrong in each place, ahead of and behind another one.
func TestNumsPlaces(t *testing.T) {
	texts := append(wrong(), "256", "-257", "9223372036854775808", "-99999999999999999999")
	for i, s := range texts {
		_, e := read(s, -256, 255)
		other := texts[(i+7)%len(texts)]
		for at := range 6 {
			l := []string{"0", "-1", "255", "-256", "12", "7"}
			l[at] = s
			for last := at; last < 6; last++ {
				row := slices.Clone(l)
				if last > at {
					row[last] = other
				}
				if got, place, gotE := figure.Nums(row, -256, 255); len(got) != 0 || place != at || gotE != e {
					t.Errorf("Nums(%q): %d, %d, %v, not %d, %v", row, got, place, gotE, at, e)
				}
			}
		}
	}
}

// P7.2, P7.4: what is told is read as it was, in its order.
func TestWords(t *testing.T) {
	if got := figure.Words(); len(got) != 0 {
		t.Errorf("Words of none: %q", got)
	}
	if got := figure.Words(5); !slices.Equal(got, []string{"5"}) {
		t.Errorf("Words(5): %q", got)
	}
	if got := figure.Words(3, -1, 0, 3); !slices.Equal(got, []string{"3", "-1", "0", "3"}) {
		t.Errorf("Words(3, -1, 0, 3): %q", got)
	}
	all := ints()
	got := figure.Words(all...)
	if len(got) != len(all) {
		t.Fatalf("Words of %d: %d", len(all), len(got))
	}
	for i, n := range all {
		if got[i] != strconv.Itoa(n) {
			t.Errorf("Words: %q in place %d, not %d", got[i], i, n)
		}
	}
	again, at, e := figure.Nums(got, math.MinInt, math.MaxInt)
	if !slices.Equal(again, all) || at != 0 || e != api.OK {
		t.Errorf("Nums of Words: %d, %d, %v", len(again), at, e)
	}
	many := make([]int, 1<<20)
	if got, at, e := figure.Nums(figure.Words(many...), 0, 0); !slices.Equal(got, many) || at != 0 || e != api.OK {
		t.Errorf("Nums of 2^20 words: %d, %d, %v", len(got), at, e)
	}
}

// R3: what is handed in isn't changed, and what is answered is its own.
func TestNumsOwn(t *testing.T) {
	l := []string{"1", "2", "x"}
	got, _, _ := figure.Nums(l[:2], 0, 9)
	again, _, _ := figure.Nums(l[:2], 0, 9)
	got[0] = 7
	if again[0] != 1 || !slices.Equal(l, []string{"1", "2", "x"}) {
		t.Errorf("Nums: %d, %q", again, l)
	}
	n := []int{1, 2, 3}
	words := figure.Words(n[:2]...)
	more := figure.Words(n[:2]...)
	words[0] = "?"
	if more[0] != "1" || !slices.Equal(n, []int{1, 2, 3}) {
		t.Errorf("Words: %q, %d", more, n)
	}
}
