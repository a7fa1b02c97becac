package bez_test

import (
	"math"
	"math/big"
	"slices"
	"testing"

	"frisket/api"
	"frisket/bez"
)

// most is a coordinate's greatest size, pieces the greatest number of these, told by themselves so that a limit that is another one shows.
const (
	most   = 8388607
	pieces = 32
)

// ends are numbers at the edges of what is asked, and far beyond.
var ends = []int{
	math.MinInt, math.MinInt + 1, -1 << 62, -1<<32 - 1, -1 << 32, -1 << 31, -1 << 24, -most - 2, -most - 1, -most, -most + 1, -2, -1,
	0, 1, 2, most - 1, most, most + 1, most + 2, 1 << 24, 1 << 31, 1 << 32, 1<<32 + 1, 1 << 62, math.MaxInt - 1, math.MaxInt,
}

// fits answers if a point may be.
func fits(p api.Point) bool {
	return p.X >= -most && p.X <= most && p.Y >= -most && p.Y <= most
}

// wrongPoints are points that may not be.
func wrongPoints() []api.Point {
	var out []api.Point
	for _, n := range ends {
		if n < -most || n > most {
			out = append(out, api.Point{X: n}, api.Point{Y: n}, api.Point{X: n, Y: n}, api.Point{X: n, Y: -n}, api.Point{X: most, Y: n})
		}
	}
	return out
}

// split answers points' parts.
func split(l []api.Point) (xs, ys []int) {
	for _, p := range l {
		xs, ys = append(xs, p.X), append(ys, p.Y)
	}
	return xs, ys
}

// turned answers points with each part where the other one was.
func turned(l []api.Point) []api.Point {
	var out []api.Point
	for _, p := range l {
		out = append(out, api.Point{X: p.Y, Y: p.X})
	}
	return out
}

// enough answers the number of pieces for what is d at the most.
func enough(d int) int {
	for n := 1; n <= pieces; n++ {
		if 16*n*n >= d {
			return n
		}
	}
	return pieces
}

// count answers what Pieces is to answer.
func count(l []api.Point) int {
	if slices.ContainsFunc(l, func(p api.Point) bool { return !fits(p) }) {
		return 0
	}
	if len(l) < 3 {
		return 1
	}
	d := 0
	xs, ys := split(l)
	for _, row := range [][]int{xs, ys} {
		for len(row) >= 3 {
			by := row[0] - 2*row[1] + row[2]
			if by < 0 {
				by = -by
			}
			if by > d {
				d = by
			}
			row = row[1:]
		}
	}
	return enough(d)
}

// part answers one part of the curve's point at k by n of the way: by the sum of what each of its numbers weighs there, and not by going between neighbours; the greatest whole number that isn't above it and a half.
func part(row []int, k, n int) int {
	m := int64(len(row) - 1)
	sum := new(big.Int)
	for i, v := range row {
		w := new(big.Int).Binomial(m, int64(i))
		w.Mul(w, power(n-k, m-int64(i))).Mul(w, power(k, int64(i)))
		sum.Add(sum, w.Mul(w, big.NewInt(int64(v))))
	}
	all := power(n, m)
	sum.Mul(sum, big.NewInt(2)).Add(sum, all)
	sum.Div(sum, all.Mul(all, big.NewInt(2))) // Euclid's: above 0 it cuts downwards, whatever is cut
	return int(sum.Int64())
}

// power answers a number times itself, so many times.
func power(n int, times int64) *big.Int {
	return new(big.Int).Exp(big.NewInt(int64(n)), big.NewInt(times), nil)
}

// curve answers what Quad and Cube are to answer.
func curve(l []api.Point) ([]api.Point, api.Errno) {
	n := count(l)
	if n == 0 {
		return nil, api.ErrRange
	}
	xs, ys := split(l)
	var out []api.Point
	for k := 1; k <= n; k++ {
		out = append(out, api.Point{X: part(xs, k, n), Y: part(ys, k, n)})
	}
	return out, api.OK
}

// lay answers what Quad or Cube answers, by how many points there are.
func lay(l []api.Point) ([]api.Point, api.Errno) {
	if len(l) == 3 {
		return bez.Quad(l[0], l[1], l[2])
	}
	return bez.Cube(l[0], l[1], l[2], l[3])
}

// parted holds what Pieces answers against what is wanted, and what it was handed against what that was.
func parted(t *testing.T, l []api.Point, want int) {
	t.Helper()
	was := slices.Clone(l)
	if got := bez.Pieces(l...); got != want {
		t.Errorf("Pieces(%v): %d, not %d", was, got, want)
	}
	if !slices.Equal(l, was) {
		t.Errorf("Pieces(%v) changed what it was handed: %v", was, l)
	}
}

// lays holds what Quad or Cube answers against what is wanted.
func lays(t *testing.T, l, want []api.Point, wantE api.Errno) {
	t.Helper()
	if got, e := lay(l); !slices.Equal(got, want) || e != wantE {
		t.Errorf("curve of %v: %v, %v, not %v, %v", l, got, e, want, wantE)
	}
}

// curves holds all calls' answers against the chapter's words.
func curves(t *testing.T, l []api.Point) {
	t.Helper()
	parted(t, l, count(l))
	want, e := curve(l)
	lays(t, l, want, e)
}

// dice answers the same numbers each time.
type dice uint64

func (d *dice) roll(n int) int {
	*d = *d*6364136223846793005 + 1442695040888963407
	return int(*d>>33) % n
}

// size answers any number that isn't further from 0 than n; often one at the edges, or small.
func (d *dice) size(n int) int {
	switch d.roll(8) {
	case 0:
		return n - d.roll(3)
	case 1:
		return d.roll(3) - n
	case 2:
		return max(-n, min(n, d.roll(21)-10))
	}
	return d.roll(2*n+1) - n
}

// points answers as many points within n of 0.
func (d *dice) points(many, n int) []api.Point {
	out := make([]api.Point, many)
	for i := range out {
		out[i] = api.Point{X: d.size(n), Y: d.size(n)}
	}
	return out
}
