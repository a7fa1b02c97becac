package colour_test

import (
	"encoding/hex"
	"math"
	"math/big"
	"regexp"
	"testing"

	"frisket/api"
	"frisket/colour"
)

var form = regexp.MustCompile(`\A[0-9a-f]{8}\z`)

// by answers n by 255 to the nearest whole number, from 0 to 255: it tries which of them is nearest.
func by(n int) uint8 {
	if n < 0 {
		return 0
	}
	if n > 255*255 {
		return 255
	}
	best, away := 0, math.MaxInt
	for k := max(n/255-1, 0); k <= min(n/255+2, 255); k++ {
		if far := max(n-255*k, 255*k-n); far < away {
			best, away = k, far
		}
	}
	return uint8(best)
}

// products holds by of each product of two parts, so that the tests go through all colours' parts fast.
func products() *[256][256]uint8 {
	var out [256][256]uint8
	for a := range 256 {
		for b := range 256 {
			out[a][b] = by(a * b)
		}
	}
	return &out
}

// capped answers a sum of two parts, 255 at most.
func capped(a, b uint8) uint8 {
	if sum := int(a) + int(b); sum < 255 {
		return uint8(sum)
	}
	return 255
}

// weighted tells whether no part is above the cover.
func weighted(c api.Colour) bool { return c.R <= c.A && c.G <= c.A && c.B <= c.A }

// parse answers what Parse is to answer.
func parse(s string) (api.Colour, api.Errno) {
	if !form.MatchString(s) {
		return api.Colour{}, api.ErrForm
	}
	b, _ := hex.DecodeString(s)
	return api.Colour{R: b[0], G: b[1], B: b[2], A: b[3]}, api.OK
}

// parses holds what Parse answers against the model; of what is read it tells, too, that it is told as it was.
func parses(t *testing.T, s string) {
	t.Helper()
	got, e := colour.Parse(s)
	want, wantE := parse(s)
	if got != want || e != wantE {
		t.Errorf("Parse(%q): %v, %v, not %v, %v", s, got, e, want, wantE)
	}
	if again := colour.Text(got); e == api.OK && again != s {
		t.Errorf("Text(%v): %q, not %q, as which it was read", got, again, s)
	}
}

// nearest answers n by 255 by fractions of the library, for n from 0 on: rounded up from a half on, which it never comes to.
func nearest(n int) int {
	r := new(big.Rat).Add(big.NewRat(int64(n), 255), big.NewRat(1, 2))
	return int(new(big.Int).Quo(r.Num(), r.Denom()).Int64())
}

// colours are those of some parts.
func colours() []api.Colour {
	var out []api.Colour
	few := []uint8{0, 1, 127, 128, 254, 255}
	for _, r := range few {
		for _, g := range few {
			for _, b := range few {
				for _, a := range few {
					out = append(out, api.Colour{R: r, G: g, B: b, A: a})
				}
			}
		}
	}
	return out
}

// dice answers the same numbers each time.
type dice uint64

func (d *dice) roll(n int) int {
	*d = *d*6364136223846793005 + 1442695040888963407
	return int(*d>>33) % n
}

// part answers any part.
func (d *dice) part() uint8 { return uint8(d.roll(256)) }

// colour answers any colour.
func (d *dice) colour() api.Colour {
	return api.Colour{R: d.part(), G: d.part(), B: d.part(), A: d.part()}
}

// weighted answers any weighted colour.
func (d *dice) weighted() api.Colour {
	a := d.part()
	most := int(a) + 1
	return api.Colour{R: uint8(d.roll(most)), G: uint8(d.roll(most)), B: uint8(d.roll(most)), A: a}
}

// letters answers up to most bytes of those in from.
func (d *dice) letters(most int, from string) string {
	out := make([]byte, d.roll(most+1))
	for i := range out {
		out[i] = from[d.roll(len(from))]
	}
	return string(out)
}
