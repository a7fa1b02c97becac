package affine_test

import (
	"math"
	"math/big"
	"testing"

	"frisket/affine"
	"frisket/api"
)

// most is a coordinate's greatest size, scale a factor's, told by themselves so that a limit that is another one shows.
const (
	most  = 8388607
	scale = 32768
)

// ends are numbers at the edges of what is asked, and far beyond.
var ends = []int{
	math.MinInt, math.MinInt + 1, -1 << 62, -1<<32 - 1, -1 << 32, -1 << 31, -1 << 24, -most - 2, -most - 1, -most, -most + 1, -scale - 1, -scale, -scale + 1, -257, -256, -255, -129, -128, -127, -2, -1,
	0, 1, 2, 127, 128, 129, 255, 256, 257, scale - 1, scale, scale + 1, most - 1, most, most + 1, most + 2, 1 << 24, 1 << 31, 1 << 32, 1<<32 + 1, 1 << 62, math.MaxInt - 1, math.MaxInt,
}

// mapOf answers the map of six numbers.
func mapOf(n [6]int) api.Map {
	return api.Map{A: n[0], B: n[1], C: n[2], D: n[3], E: n[4], F: n[5]}
}

// numbers answers a map's six numbers.
func numbers(m api.Map) [6]int {
	return [6]int{m.A, m.B, m.C, m.D, m.E, m.F}
}

// limits are the greatest sizes of a map's six numbers.
var limits = [6]int{scale, scale, scale, scale, most, most}

// may answers what May is to answer.
func may(m api.Map) bool {
	ok := true
	for i, n := range numbers(m) {
		ok = ok && -limits[i] <= n && n <= limits[i]
	}
	return ok
}

// fits answers what Fits is to answer.
func fits(p api.Point) bool {
	return p.X >= -most && p.X <= most && p.Y >= -most && p.Y <= most
}

// part answers one part of where a point goes, by the chapter's words: the greatest whole number that isn't above the sum by 256 and a half, and what is added to it.
func part(a, x, c, y, e int) int {
	n := new(big.Int).Mul(big.NewInt(int64(a)), big.NewInt(int64(x)))
	n.Add(n, new(big.Int).Mul(big.NewInt(int64(c)), big.NewInt(int64(y))))
	n.Mul(n, big.NewInt(2)).Add(n, big.NewInt(256))
	n.Div(n, big.NewInt(512)) // Euclid's: above 0 it cuts downwards, whatever is cut
	return int(n.Int64()) + e
}

// apply answers what Apply is to answer.
func apply(m api.Map, p api.Point) (api.Point, api.Errno) {
	if !may(m) {
		return api.Point{}, api.ErrArg
	}
	if !fits(p) {
		return api.Point{}, api.ErrRange
	}
	to := api.Point{X: part(m.A, p.X, m.C, p.Y, m.E), Y: part(m.B, p.X, m.D, p.Y, m.F)}
	if !fits(to) {
		return api.Point{}, api.ErrRange
	}
	return to, api.OK
}

// through answers what Through is to answer: the point of the maps behind the first one goes by that.
func through(l []api.Map, p api.Point) (api.Point, api.Errno) {
	if len(l) == 0 {
		return p, api.OK
	}
	behind, e := through(l[1:], p)
	if e != api.OK {
		return api.Point{}, e
	}
	return apply(l[0], behind)
}

// all answers what All is to answer.
func all(l []api.Map, pts []api.Point) ([]api.Point, api.Errno) {
	var out []api.Point
	for _, p := range pts {
		to, e := through(l, p)
		if e != api.OK {
			return nil, e
		}
		out = append(out, to)
	}
	return out, api.OK
}

// applies holds what Apply answers against what is wanted.
func applies(t *testing.T, m api.Map, p, want api.Point, wantE api.Errno) {
	t.Helper()
	if got, e := affine.Apply(m, p); got != want || e != wantE {
		t.Errorf("Apply(%v, %v): %v, %v, not %v, %v", m, p, got, e, want, wantE)
	}
}

// goes holds what Through answers against what is wanted.
func goes(t *testing.T, l []api.Map, p, want api.Point, wantE api.Errno) {
	t.Helper()
	if got, e := affine.Through(l, p); got != want || e != wantE {
		t.Errorf("Through(%v, %v): %v, %v, not %v, %v", l, p, got, e, want, wantE)
	}
}

// wrongMaps are maps that may not be, each for one number alone.
func wrongMaps() []api.Map {
	var out []api.Map
	for i, limit := range limits {
		for _, n := range []int{limit + 1, -limit - 1, 2 * limit, math.MaxInt, math.MinInt, 1 << 32, -1 << 32, 1<<32 + 1} {
			m := numbers(affine.Same())
			m[i] = n
			out = append(out, mapOf(m))
		}
	}
	return out
}

// wrongPoints are points that may not be.
func wrongPoints() []api.Point {
	var out []api.Point
	for _, n := range ends {
		if n < -most || n > most {
			out = append(out, api.Point{X: n}, api.Point{Y: n}, api.Point{X: n, Y: n}, api.Point{X: n, Y: -n})
		}
	}
	return out
}

// dice answers the same numbers each time.
type dice uint64

func (d *dice) roll(n int) int {
	*d = *d*6364136223846793005 + 1442695040888963407
	return int(*d>>33) % n
}

// size answers any number that isn't further from 0 than most; often one at the edges, or small.
func (d *dice) size(most int) int {
	switch d.roll(8) {
	case 0:
		return most - d.roll(3)
	case 1:
		return d.roll(3) - most
	case 2:
		return max(-most, min(most, 128*(d.roll(13)-6)))
	case 3:
		return d.roll(21) - 10
	}
	return d.roll(2*most+1) - most
}

// plane answers any map that may be.
func (d *dice) plane() api.Map {
	return api.Map{A: d.size(scale), B: d.size(scale), C: d.size(scale), D: d.size(scale), E: d.size(most), F: d.size(most)}
}

// mild answers a map that takes most points near 0 to such.
func (d *dice) mild() api.Map {
	return api.Map{A: d.size(400), B: d.size(400), C: d.size(400), D: d.size(400), E: d.size(1000), F: d.size(1000)}
}

// point answers any point within n of 0.
func (d *dice) point(n int) api.Point {
	return api.Point{X: d.size(n), Y: d.size(n)}
}
