package stroke_test

import (
	"math"
	"math/big"
	"slices"
	"testing"

	"frisket/api"
	"frisket/stroke"
)

// The limits, told by themselves so that one that is another one shows: a coordinate's size (and a length's, and a phase's), a pen's width, its limit, lengths of a pattern, ways in all.
const (
	most       = 8388607
	leastWidth = 2
	mostWidth  = 65536
	leastLimit = 256
	mostLimit  = 8192
	dashes     = 8
	segs       = 3000
)

// far are numbers beyond whatever limits there are.
var far = []int{math.MinInt, math.MinInt + 1, -1 << 62, -1 << 32, -1 << 31, -most - 1, 1 << 24, 1 << 32, 1<<32 + 2, 1 << 62, math.MaxInt - 1, math.MaxInt}

// pt answers a point.
func pt(x, y int) api.Point { return api.Point{X: x, Y: y} }

// row answers points, told by their parts.
func row(parts ...int) []api.Point {
	var out []api.Point
	for i := 0; i+1 < len(parts); i += 2 {
		out = append(out, pt(parts[i], parts[i+1]))
	}
	return out
}

// open answers an open line, told by its points' parts.
func open(parts ...int) api.Line { return api.Line{Pts: row(parts...)} }

// closed answers a closed line, likewise.
func closed(parts ...int) api.Line { return api.Line{Pts: row(parts...), Closed: true} }

// pen answers a pen of a width, by its ends and its corners, that goes far at corners.
func pen(width, ends, corners int) api.Pen {
	return api.Pen{Width: width, Cap: ends, Join: corners, Limit: 1024}
}

// pens are pens of a width by all ends and corners.
func pens(width int) []api.Pen {
	var out []api.Pen
	for _, ends := range []int{api.CapButt, api.CapSquare, api.CapRound} {
		for _, corners := range []int{api.JoinBevel, api.JoinMiter, api.JoinRound} {
			out = append(out, pen(width, ends, corners))
		}
	}
	return out
}

// wrongPens are pens that may not be, each by one of its parts.
func wrongPens() []api.Pen {
	var out []api.Pen
	add := func(change func(p *api.Pen, n int), l ...int) {
		for _, n := range slices.Concat(l, far) {
			for _, p := range []api.Pen{pen(10, 0, 0), pen(10, 1, 1), pen(10, 2, 2)} {
				change(&p, n)
				out = append(out, p)
			}
		}
	}
	add(func(p *api.Pen, n int) { p.Width = n }, -2, -1, 0, 1, mostWidth+1, mostWidth+2)
	add(func(p *api.Pen, n int) { p.Cap = n }, -2, -1, 3, 4)
	add(func(p *api.Pen, n int) { p.Join = n }, -2, -1, 3, 4)
	add(func(p *api.Pen, n int) { p.Limit = n }, -1, 0, 1, 254, 255, mostLimit+1, mostLimit+2)
	add(func(p *api.Pen, n int) { p.Phase = n }, -2, -1, most+1, most+2)
	add(func(p *api.Pen, n int) { p.Dash = []int{n} }, -1, 0, most+1)
	add(func(p *api.Pen, n int) { p.Dash = []int{5, n} }, -1, 0, most+1)
	add(func(p *api.Pen, n int) { p.Dash = make([]int, max(9, min(n, 20))) }, 9)
	add(func(p *api.Pen, n int) { p.Dash = []int{1, 1, 1, 1, 1, 1, 1, 1, 1} }, 9)
	return out
}

// fits answers if all points may be.
func fits(l ...api.Point) bool {
	return !slices.ContainsFunc(l, func(p api.Point) bool { return p.X < -most || p.X > most || p.Y < -most || p.Y > most })
}

// wrongPoints are points that may not be.
func wrongPoints() []api.Point {
	var out []api.Point
	for _, n := range slices.Concat(far, []int{-most - 2, most + 1, most + 2}) {
		if n < -most || n > most {
			out = append(out, pt(n, 0), pt(0, n), pt(n, n), pt(n, -n), pt(most, n), pt(n, -most))
		}
	}
	return out
}

// whole answers an int as a number of any size.
func whole(n int) *big.Int { return big.NewInt(int64(n)) }

// product answers numbers of any size, one times the other.
func product(l ...int) *big.Int {
	out := whole(1)
	for _, n := range l {
		out.Mul(out, whole(n))
	}
	return out
}

// near answers n by d as the nearest whole number, of two the greater one: the greatest one that isn't above the quotient and a half.
func near(n, d *big.Int) int {
	twice := new(big.Int).Lsh(d, 1)
	up := new(big.Int).Lsh(n, 1)
	up.Add(up, d)
	return int(up.Div(up, twice).Int64()) // Euclid's: by what is above 0 it cuts downwards, whatever is cut
}

// long answers a way's length; 0, where a point may not be.
func long(a, b api.Point) int {
	if !fits(a, b) {
		return 0
	}
	x, y := product(b.X-a.X, b.X-a.X), product(b.Y-a.Y, b.Y-a.Y)
	return int(x.Add(x, y).Sqrt(x).Int64())
}

// lead answers what leads as far as h along a way; zeros, where it goes nowhere or a point may not be.
func lead(a, b api.Point, h int) api.Point {
	n := long(a, b)
	if n == 0 {
		return pt(0, 0)
	}
	return pt(near(product(b.X-a.X, h), whole(n)), near(product(b.Y-a.Y, h), whole(n)))
}

// beside answers what leads h to the left of a way.
func beside(a, b api.Point, h int) api.Point {
	n := long(a, b)
	if n == 0 || h < -mostWidth || h > mostWidth {
		return pt(0, 0)
	}
	return pt(near(product(-1, b.Y-a.Y, h), whole(n)), near(product(b.X-a.X, h), whole(n)))
}

// add answers points, put together.
func add(l ...api.Point) api.Point {
	var out api.Point
	for _, p := range l {
		out = pt(out.X+p.X, out.Y+p.Y)
	}
	return out
}

// back answers a point's opposite.
func back(p api.Point) api.Point { return pt(-p.X, -p.Y) }

// side answers on which side of a way a point is.
func side(a, b, c api.Point) int {
	gap := func(from, to int) *big.Int { return new(big.Int).Sub(whole(to), whole(from)) }
	left := new(big.Int).Mul(gap(a.X, b.X), gap(a.Y, c.Y))
	return left.Cmp(new(big.Int).Mul(gap(a.Y, b.Y), gap(a.X, c.X)))
}

// may answers what May is to answer.
func may(p api.Pen) bool {
	wrong := p.Width < leastWidth || p.Width > mostWidth || p.Cap < 0 || p.Cap > 2 || p.Join < 0 || p.Join > 2 || p.Limit < leastLimit || p.Limit > mostLimit || p.Phase < 0 || p.Phase > most || len(p.Dash) > dashes
	return !wrong && !slices.ContainsFunc(p.Dash, func(n int) bool { return n < 1 || n > most })
}

// disc answers what Disc is to answer: each point by both its parts.
func disc(p api.Point, h int) []api.Point {
	if h < 0 || h > mostWidth {
		return nil
	}
	const a, b, c = 60547, 46341, 25080
	var out []api.Point
	for _, q := range row(65536, 0, a, c, b, b, c, a, 0, 65536, -c, a, -b, b, -a, c, -65536, 0, -a, -c, -b, -b, -c, -a, 0, -65536, c, -a, b, -b, a, -c) {
		out = append(out, add(p, pt(near(product(q.X, h), whole(65536)), near(product(q.Y, h), whole(65536)))))
	}
	return out
}

// bar answers what Bar is to answer.
func bar(a, b api.Point, h int) []api.Point {
	n := beside(a, b, h)
	if n == pt(0, 0) {
		return nil
	}
	return []api.Point{add(a, back(n)), add(b, back(n)), add(b, n), add(a, n)}
}

// pointed answers if a miter may be at a corner whose ways' Asides these are, and what leads to its point.
func pointed(n, m api.Point, p api.Pen) (api.Point, bool) {
	h := p.Width / 2
	by := product(h, h)
	by.Add(by, product(n.X, m.X)).Add(by, product(n.Y, m.Y))
	limit := new(big.Int).Mul(product(p.Limit, p.Limit), by)
	if p.Join != api.JoinMiter || product(131072, h, h).Cmp(limit) > 0 {
		return pt(0, 0), false
	}
	return pt(near(product(n.X+m.X, h, h), by), near(product(n.Y+m.Y, h, h), by)), true
}

// corner answers what Corner is to answer.
func corner(a, p, b api.Point, with api.Pen) []api.Point {
	if !may(with) {
		return nil
	}
	if with.Join == api.JoinRound {
		return disc(p, with.Width/2)
	}
	on := side(a, p, b)
	if on == 0 {
		return nil
	}
	o, q := beside(a, p, with.Width/2), beside(p, b, with.Width/2)
	if on > 0 {
		o, q = back(o), back(q)
	}
	if t, ok := pointed(o, q, with); ok {
		return []api.Point{p, add(p, o), add(p, t), add(p, q)}
	}
	return []api.Point{p, add(p, o), add(p, q)}
}

// tip answers what Tip is to answer.
func tip(a, b api.Point, with api.Pen) []api.Point {
	if !may(with) {
		return nil
	}
	h := with.Width / 2
	if with.Cap == api.CapRound {
		return disc(b, h)
	}
	n, f := beside(a, b, h), lead(a, b, h)
	if with.Cap == api.CapButt || n == pt(0, 0) {
		return nil
	}
	return []api.Point{add(b, back(n)), add(b, back(n), f), add(b, n, f), add(b, n)}
}

// twice answers twice the area around points that may be, by how much lies to the left of each way.
func twice(l []api.Point) int {
	sum := new(big.Int)
	for i, b := range l {
		a := l[(i+len(l)-1)%len(l)]
		sum.Add(sum, product(a.X+b.X, b.Y-a.Y))
	}
	return int(sum.Int64())
}

// parts answers all that Line is to draw, with or without an area: each way of the line is told by its ends, then all corners by two ways that meet.
func parts(l api.Line, with api.Pen) [][]api.Point {
	var pts []api.Point
	for i, p := range l.Pts {
		if i == 0 || p != l.Pts[i-1] {
			pts = append(pts, p)
		}
	}
	if l.Closed && len(pts) > 1 && pts[0] == pts[len(pts)-1] {
		pts = pts[:len(pts)-1]
	}
	if len(pts) < 2 {
		return nil
	}
	var ways [][2]api.Point
	for i, p := range pts[1:] {
		ways = append(ways, [2]api.Point{pts[i], p})
	}
	first, last := ways[0], ways[len(ways)-1]
	if l.Closed {
		ways = append(ways, [2]api.Point{last[1], first[0]})
	}
	var out [][]api.Point
	for _, w := range ways {
		out = append(out, bar(w[0], w[1], with.Width/2))
	}
	if l.Closed {
		out = append(out, corner(last[1], first[0], first[1], with))
	}
	for i, w := range ways[1:] {
		out = append(out, corner(ways[i][0], w[0], w[1], with))
	}
	if !l.Closed {
		out = append(out, tip(first[1], first[0], with), tip(last[0], last[1], with))
	}
	return out
}

// line answers what Line is to answer.
func line(l api.Line, with api.Pen) ([][]api.Point, api.Errno) {
	if !may(with) {
		return nil, api.ErrArg
	}
	if !fits(l.Pts...) {
		return nil, api.ErrRange
	}
	var out [][]api.Point
	for _, pts := range parts(l, with) {
		if !fits(pts...) {
			return nil, api.ErrRange
		}
		switch area := twice(pts); {
		case area < 0:
			slices.Reverse(pts)
			fallthrough
		case area > 0:
			out = append(out, pts)
		}
	}
	return out, api.OK
}

// around answers the ways around areas.
func around(l [][]api.Point) []api.Seg {
	var out []api.Seg
	for _, pts := range l {
		for i, p := range pts[1:] {
			out = append(out, api.Seg{A: pts[i], B: p})
		}
		out = append(out, api.Seg{A: pts[len(pts)-1], B: pts[0]})
	}
	return slices.DeleteFunc(out, func(s api.Seg) bool { return s.A == s.B })
}

// same answers if two lists of areas are alike.
func same(a, b [][]api.Point) bool { return slices.EqualFunc(a, b, slices.Equal[[]api.Point]) }

// copied answers a pen in memory of its own.
func copied(p api.Pen) api.Pen {
	p.Dash = slices.Clone(p.Dash)
	return p
}

// kept tells of a pen that isn't what it was.
func kept(t *testing.T, p, was api.Pen) {
	t.Helper()
	if !slices.Equal(p.Dash, was.Dash) {
		t.Errorf("the pattern %v was changed to %v", was.Dash, p.Dash)
	}
}

// pointsAre tells of points that aren't what is wanted.
func pointsAre(t *testing.T, what string, got, want []api.Point) {
	t.Helper()
	if !slices.Equal(got, want) {
		t.Errorf("%s: %v, not %v", what, got, want)
	}
}

// lineIs holds what Line answers against what is wanted, and what it was handed against what that was.
func lineIs(t *testing.T, l api.Line, with api.Pen, want [][]api.Point, e api.Errno) {
	t.Helper()
	pts, was := slices.Clone(l.Pts), copied(with)
	if got, err := stroke.Line(l, with); !same(got, want) || err != e {
		t.Errorf("Line(%v, %v): %v, %v, not %v, %v", l, with, got, err, want, e)
	}
	if !slices.Equal(l.Pts, pts) {
		t.Errorf("Line changed %v to %v", pts, l.Pts)
	}
	kept(t, with, was)
}

// lineModel holds what Line answers against the chapter's words.
func lineModel(t *testing.T, l api.Line, with api.Pen) {
	t.Helper()
	want, e := line(l, with)
	lineIs(t, l, with, want, e)
}

// dice answers the same numbers each time.
type dice uint64

func (d *dice) roll(n int) int {
	*d = *d*6364136223846793005 + 1442695040888963407
	return int(*d>>33) % n
}

// size answers any number that isn't further from 0 than n; often one at the edges, or small.
func (d *dice) size(n int) int {
	switch d.roll(8) {
	case 0:
		return n - d.roll(3)
	case 1:
		return d.roll(3) - n
	case 2:
		return max(-n, min(n, d.roll(21)-10))
	}
	return d.roll(2*n+1) - n
}

// point answers a point within n of 0.
func (d *dice) point(n int) api.Point { return pt(d.size(n), d.size(n)) }

// line answers a line of as many points within n of 0; some are as the one ahead, or as the first one.
func (d *dice) line(many, n int) api.Line {
	out := make([]api.Point, many)
	for i := range out {
		out[i] = d.point(n)
		switch d.roll(8) {
		case 0:
			out[i] = out[max(0, i-1)]
		case 1:
			out[i] = out[0]
		}
	}
	return api.Line{Pts: out, Closed: d.roll(2) == 0}
}

// pen answers a pen no wider than told; without a pattern.
func (d *dice) pen(width int) api.Pen {
	return api.Pen{Width: leastWidth + d.roll(width-1), Cap: d.roll(3), Join: d.roll(3), Limit: []int{leastLimit, 300, 362, 363, 400, 1024, 4000, mostLimit}[d.roll(8)], Phase: d.roll(3)}
}
