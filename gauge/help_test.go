package gauge_test

import (
	"math"
	"math/big"
	"slices"
	"testing"

	"frisket/api"
	"frisket/gauge"
)

// The limits, told by themselves so that one that is another one shows: a coordinate's size, a width, how far one goes on, what is divided and by what, points that there is an area around.
const (
	most  = 8388607
	width = 65536
	ahead = 33554432
	over  = 1125899906842624
	under = 4294967296
	pts   = 10000
)

// ends are numbers at the edges of what is asked, and far beyond.
var ends = []int{
	math.MinInt, math.MinInt + 1, -1 << 62, -over - 2, -over - 1, -over, -over + 1, -under - 1, -under, -under + 1, -1 << 31, -ahead - 1, -ahead, -1 << 24, -most - 2, -most - 1, -most, -most + 1, -width - 1, -width, -width + 1, -3, -2, -1,
	0, 1, 2, 3, width - 1, width, width + 1, most - 1, most, most + 1, most + 2, 1 << 24, ahead - 1, ahead, ahead + 1, ahead + 2, 1 << 31, under - 1, under, under + 1, under + 2, over - 1, over, over + 1, over + 2, 1 << 62, math.MaxInt - 1, math.MaxInt,
}

// pt answers a point.
func pt(x, y int) api.Point { return api.Point{X: x, Y: y} }

// fits answers if all points may be.
func fits(l ...api.Point) bool {
	return !slices.ContainsFunc(l, func(p api.Point) bool { return p.X < -most || p.X > most || p.Y < -most || p.Y > most })
}

// wrongPoints are points that may not be.
func wrongPoints() []api.Point {
	var out []api.Point
	for _, n := range ends {
		if n < -most || n > most {
			out = append(out, pt(n, 0), pt(0, n), pt(n, n), pt(n, -n), pt(most, n), pt(n, -most))
		}
	}
	return out
}

// limitPoints are points at the limits and within them.
func limitPoints() []api.Point {
	var out []api.Point
	for _, x := range []int{-most, 1 - most, -1, 0, 1, most} {
		for _, y := range []int{-most, -1, 0, 1, most - 1, most} {
			out = append(out, pt(x, y))
		}
	}
	return out
}

// whole answers an int as a number of any size.
func whole(n int) *big.Int { return big.NewInt(int64(n)) }

// long answers what Len is to answer.
func long(a, b api.Point) int {
	if !fits(a, b) {
		return 0
	}
	x, y := whole(b.X-a.X), whole(b.Y-a.Y)
	x.Mul(x, x).Add(x, y.Mul(y, y))
	return int(x.Sqrt(x).Int64())
}

// longs answers what Long is to answer: from behind.
func longs(l api.Line) int {
	n := len(l.Pts)
	if n == 0 || !fits(l.Pts...) {
		return 0
	}
	sum := 0
	if l.Closed {
		sum = long(l.Pts[n-1], l.Pts[0])
	}
	for ; n > 1; n-- {
		sum += long(l.Pts[n-2], l.Pts[n-1])
	}
	return sum
}

// near answers what Near is to answer, of numbers of any size: the greatest whole number that isn't above the quotient and a half.
func near(n, d *big.Int) int {
	if n.CmpAbs(whole(over)) > 0 || d.Sign() <= 0 || d.Cmp(whole(under)) > 0 {
		return 0
	}
	twice := new(big.Int).Mul(d, big.NewInt(2))
	up := new(big.Int).Mul(n, big.NewInt(2))
	up.Add(up, d)
	return int(up.Div(up, twice).Int64()) // Euclid's: by what is above 0 it cuts downwards, whatever is cut
}

// times answers n times m, n's sign turned, if it is told to be.
func times(n, m int, turned bool) *big.Int {
	out := whole(n)
	if turned {
		out.Neg(out)
	}
	return out.Mul(out, whole(m))
}

// aside answers what Aside is to answer.
func aside(a, b api.Point, h int) api.Point {
	if long(a, b) == 0 || h < -width || h > width {
		return pt(0, 0)
	}
	d := whole(long(a, b))
	return pt(near(times(b.Y-a.Y, h, true), d), near(times(b.X-a.X, h, false), d))
}

// aheadOf answers what Ahead is to answer.
func aheadOf(a, b api.Point, n int) api.Point {
	if long(a, b) == 0 || n < 0 || n > ahead {
		return a
	}
	d := whole(long(a, b))
	return pt(a.X+near(times(b.X-a.X, n, false), d), a.Y+near(times(b.Y-a.Y, n, false), d))
}

// twice answers what Twice is to answer: by how much lies to the left of each way, and not by what it goes around 0 0.
func twice(l []api.Point) int {
	if len(l) > pts || !fits(l...) {
		return 0
	}
	sum := new(big.Int)
	for i, b := range l {
		a := l[(i+len(l)-1)%len(l)]
		sum.Add(sum, new(big.Int).Mul(whole(a.X+b.X), whole(b.Y-a.Y)))
	}
	return int(sum.Int64())
}

// round answers what Round is to answer.
func round(l []api.Point) []api.Point {
	if twice(l) < 0 {
		return reversed(l)
	}
	return l
}

// reversed answers points turned round.
func reversed(l []api.Point) []api.Point {
	var out []api.Point
	for _, p := range slices.Backward(l) {
		out = append(out, p)
	}
	return out
}

// lenIs holds what Len answers, both ways, against what is wanted.
func lenIs(t *testing.T, a, b api.Point, want int) {
	t.Helper()
	if got := gauge.Len(a, b); got != want {
		t.Errorf("Len(%v, %v): %d, not %d", a, b, got, want)
	}
	if got := gauge.Len(b, a); got != want {
		t.Errorf("Len(%v, %v): %d, not %d", b, a, got, want)
	}
}

// longIs holds what Long answers against what is wanted, and what it was handed against what that was.
func longIs(t *testing.T, closed bool, l []api.Point, want int) {
	t.Helper()
	was := slices.Clone(l)
	if got := gauge.Long(api.Line{Pts: l, Closed: closed}); got != want {
		t.Errorf("Long(%v, %t): %d, not %d", was, closed, got, want)
	}
	if !slices.Equal(l, was) {
		t.Errorf("Long changed %v to %v", was, l)
	}
}

// nearIs holds what Near answers against what is wanted.
func nearIs(t *testing.T, n, d, want int) {
	t.Helper()
	if got := gauge.Near(n, d); got != want {
		t.Errorf("Near(%d, %d): %d, not %d", n, d, got, want)
	}
}

// asideIs holds what Aside answers against what is wanted.
func asideIs(t *testing.T, a, b api.Point, h int, want api.Point) {
	t.Helper()
	if got := gauge.Aside(a, b, h); got != want {
		t.Errorf("Aside(%v, %v, %d): %v, not %v", a, b, h, got, want)
	}
}

// aheadIs holds what Ahead answers against what is wanted.
func aheadIs(t *testing.T, a, b api.Point, n int, want api.Point) {
	t.Helper()
	if got := gauge.Ahead(a, b, n); got != want {
		t.Errorf("Ahead(%v, %v, %d): %v, not %v", a, b, n, got, want)
	}
}

// boxIs holds what Box answers against what is wanted.
func boxIs(t *testing.T, l []api.Point, least, greatest api.Point, ok bool) {
	t.Helper()
	was := slices.Clone(l)
	if p, q, got := gauge.Box(l); p != least || q != greatest || got != ok {
		t.Errorf("Box(%v): %v, %v, %t, not %v, %v, %t", was, p, q, got, least, greatest, ok)
	}
	if !slices.Equal(l, was) {
		t.Errorf("Box changed %v to %v", was, l)
	}
}

// twiceIs holds what Twice answers against what is wanted, and what Round answers, if the points stay, or are turned round, by that.
func twiceIs(t *testing.T, l []api.Point, want int) {
	t.Helper()
	was := slices.Clone(l)
	if got := gauge.Twice(l); got != want {
		t.Errorf("Twice(%v): %d, not %d", was, got, want)
	}
	to := was
	if want < 0 {
		to = reversed(was)
	}
	if got := gauge.Round(l); !slices.Equal(got, to) {
		t.Errorf("Round(%v): %v, not %v", was, got, to)
	}
	if !slices.Equal(l, was) {
		t.Errorf("Twice or Round changed %v to %v", was, l)
	}
}

// dice answers the same numbers each time.
type dice uint64

func (d *dice) roll(n int) int {
	*d = *d*6364136223846793005 + 1442695040888963407
	return int(*d>>33) % n
}

// size answers any number that isn't further from 0 than n; often one at the edges, or small.
func (d *dice) size(n int) int {
	switch d.roll(8) {
	case 0:
		return n - d.roll(3)
	case 1:
		return d.roll(3) - n
	case 2:
		return max(-n, min(n, d.roll(21)-10))
	}
	return d.roll(2*n+1) - n
}

// point answers a point within n of 0.
func (d *dice) point(n int) api.Point { return pt(d.size(n), d.size(n)) }

// points answers as many points within n of 0.
func (d *dice) points(many, n int) []api.Point {
	out := make([]api.Point, many)
	for i := range out {
		out[i] = d.point(n)
	}
	return out
}
