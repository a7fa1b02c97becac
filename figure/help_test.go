package figure_test

import (
	"encoding/hex"
	"math"
	"math/big"
	"regexp"
	"slices"
	"testing"

	"frisket/api"
	"frisket/figure"
)

var (
	numForm = regexp.MustCompile(`\A(0|-?[1-9][0-9]*)\z`)
	hexForm = regexp.MustCompile(`\A([0-9a-f][0-9a-f])*\z`)
)

// read answers what Read is to answer, by the chapter's words one behind the other.
func read(s string, lo, hi int) (int, api.Errno) {
	if !numForm.MatchString(s) {
		return 0, api.ErrForm
	}
	n, _ := new(big.Int).SetString(s, 10)
	if n.Cmp(big.NewInt(int64(lo))) < 0 || n.Cmp(big.NewInt(int64(hi))) > 0 {
		return 0, api.ErrRange
	}
	return int(n.Int64()), api.OK
}

// unhex answers what Unhex is to answer.
func unhex(s string) ([]byte, api.Errno) {
	if !hexForm.MatchString(s) {
		return nil, api.ErrForm
	}
	b, _ := hex.DecodeString(s)
	return b, api.OK
}

// short answers what of a text can be told.
func short(s string) string {
	if len(s) > 80 {
		return s[:40] + " .. " + s[len(s)-40:]
	}
	return s
}

// reads holds what Read answers against the model; of what is read it tells, too, that it is told as it was.
func reads(t *testing.T, s string, lo, hi int) {
	t.Helper()
	got, e := figure.Read(s, lo, hi)
	want, wantE := read(s, lo, hi)
	if got != want || e != wantE {
		t.Errorf("Read(%q, %d, %d): %d, %v, not %d, %v", short(s), lo, hi, got, e, want, wantE)
	}
	if again := figure.Num(got); e == api.OK && again != s {
		t.Errorf("Num(%d): %q, not %q, as which it was read", got, again, short(s))
	}
}

// unhexes holds what Unhex answers against the model; of what is read it tells, too, that it is told as it was.
func unhexes(t *testing.T, s string) {
	t.Helper()
	got, e := figure.Unhex(s)
	want, wantE := unhex(s)
	if !slices.Equal(got, want) || e != wantE {
		t.Errorf("Unhex(%q): %d, %v, not %d, %v", short(s), got, e, want, wantE)
	}
	if again := figure.Hex(got); e == api.OK && again != s {
		t.Errorf("Hex(%d): %q, not %q, as which it was read", got, short(again), short(s))
	}
}

// hexes holds what Hex answers against the library, and reads it again.
func hexes(t *testing.T, b []byte) {
	t.Helper()
	was := slices.Clone(b)
	s := figure.Hex(b)
	if want := hex.EncodeToString(was); s != want {
		t.Errorf("Hex of %d bytes: %q, not %q", len(b), short(s), short(want))
	}
	if !slices.Equal(b, was) {
		t.Errorf("Hex changed its bytes")
	}
	if again, e := figure.Unhex(s); e != api.OK || !slices.Equal(again, was) {
		t.Errorf("Unhex(%q): %d bytes, %v", short(s), len(again), e)
	}
}

// ints are ints at which something changes: all of few figures, what is at, below and above each power of 10 and of 2, and both ends.
func ints() []int {
	out := []int{math.MinInt, math.MinInt + 1, math.MaxInt - 1, math.MaxInt, api.MaxCoord, -api.MaxCoord}
	for n := -1100; n <= 1100; n++ {
		out = append(out, n)
	}
	for n := 1000; n <= math.MaxInt/10; n *= 10 {
		out = append(out, n-1, n, n+1, 1-n, -n, -n-1, 3*n, -7*n)
	}
	for n := 1024; n <= math.MaxInt/2; n *= 2 {
		out = append(out, n-1, n, n+1, 1-n, -n, -n-1)
	}
	return out
}

// limits are lo and hi, some of which no number is between.
func limits() [][2]int {
	return [][2]int{
		{math.MinInt, math.MaxInt}, {-api.MaxCoord, api.MaxCoord}, {0, 255}, {1, api.MaxPage}, {0, 0}, {-1, -1}, {-10, 10}, {-9, 9}, {100, 999}, {-5, -3},
		{1, 0}, {5, -5}, {math.MaxInt, math.MinInt}, {math.MinInt, math.MinInt}, {math.MaxInt, math.MaxInt}, {math.MinInt, -1}, {0, math.MaxInt}, {math.MinInt + 1, math.MaxInt - 1},
	}
}

// beyond are texts of numbers that are no ints, and of such as just are.
func beyond() []string {
	var out []string
	for _, base := range []*big.Int{big.NewInt(math.MaxInt), big.NewInt(math.MinInt), new(big.Int).Lsh(big.NewInt(1), 64), new(big.Int).Lsh(big.NewInt(-1), 64), new(big.Int).Lsh(big.NewInt(5), 64), new(big.Int).Lsh(big.NewInt(1), 128)} {
		for near := int64(-12); near <= 12; near++ {
			out = append(out, new(big.Int).Add(base, big.NewInt(near)).String())
		}
	}
	tens := big.NewInt(1)
	for range 60 {
		tens = new(big.Int).Mul(tens, big.NewInt(10))
		for near := int64(-1); near <= 1; near++ {
			n := new(big.Int).Add(tens, big.NewInt(near))
			out = append(out, n.String(), new(big.Int).Neg(n).String())
		}
	}
	return out
}

// wrong are texts that are no number's.
func wrong() []string {
	return []string{
		"", "-", "--", "-0", "+0", "+1", "+", "00", "01", "-01", "-00", "007", "0-", "1-", "1-1", "--1", "-+1", "+-1", " 1", "1 ", "1\n", "\t1", "\x00", "1\x00", "- 1",
		"1.0", ".5", "1,000", "1_000", "1e3", "0x10", "0b1", "0o7", "1/2", "a", "ff", "/", ":", "1/", "1:", "12a", "a12", "inf", "NaN",
		"१२", "1२", "١", "−1", "１", "½", "\u0130", "\u0131\u0132", "1\u0230", "\xff", "1\xb1", "-\xff", "\ufeff1", "1\u00a0",
	}
}

// dice answers the same numbers each time.
type dice uint64

func (d *dice) roll(n int) int {
	*d = *d*6364136223846793005 + 1442695040888963407
	return int(*d>>33) % n
}

// letters answers up to most bytes of those in from.
func (d *dice) letters(most int, from string) string {
	out := make([]byte, d.roll(most+1))
	for i := range out {
		out[i] = from[d.roll(len(from))]
	}
	return string(out)
}

// bytes answers up to most bytes.
func (d *dice) bytes(most int) []byte {
	out := make([]byte, d.roll(most+1))
	for i := range out {
		out[i] = byte(d.roll(256))
	}
	return out
}

// int answers an int of any size.
func (d *dice) int() int {
	n := d.roll(1<<31)<<33 ^ d.roll(1<<31)<<10 ^ d.roll(1<<31)
	return n >> d.roll(64)
}
