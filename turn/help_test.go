package turn_test

import (
	"math"
	"math/big"
	"slices"
	"testing"

	"frisket/api"
	"frisket/spot"
	"frisket/turn"
)

const (
	most = 8388607 // a coordinate's size at its limit, told by itself so that one that is another one shows
	top  = 1<<32 - 1
)

// far are numbers beyond whatever limits there are.
var far = []int{math.MinInt, math.MinInt + 1, -1 << 62, -1 << 32, -1 << 31, -most - 2, -most - 1, most + 1, most + 2, 1 << 24, 1 << 31, 1 << 32, 1<<32 + 2, 1 << 62, math.MaxInt - 1, math.MaxInt}

// pt answers a point.
func pt(x, y int) api.Point { return api.Point{X: x, Y: y} }

// way answers a way, told by its ends' parts.
func way(ax, ay, bx, by int) api.Seg { return api.Seg{A: pt(ax, ay), B: pt(bx, by)} }

// back answers a way the other way round.
func back(s api.Seg) api.Seg { return api.Seg{A: s.B, B: s.A} }

// loop answers the ways around points.
func loop(l ...api.Point) []api.Seg {
	var out []api.Seg
	for i, p := range l {
		out = append(out, api.Seg{A: p, B: l[(i+1)%len(l)]})
	}
	return out
}

// each answers what becomes of each of a list.
func each[T, U any](l []T, to func(T) U) []U {
	out := make([]U, len(l))
	for i, one := range l {
		out[i] = to(one)
	}
	return out
}

// wrongWays are ways that may not be, by one end or by both; some go through 0 0, or are a point.
func wrongWays() []api.Seg {
	var out []api.Seg
	for _, n := range far {
		for _, p := range []api.Point{pt(n, 0), pt(0, n), pt(n, n), pt(n, -n), pt(most, n), pt(n, -most)} {
			for _, q := range []api.Point{pt(0, 0), pt(2, 2), pt(-1, 3), p, pt(p.Y, p.X)} {
				out = append(out, api.Seg{A: p, B: q}, api.Seg{A: q, B: p})
			}
		}
	}
	return out
}

// fits answers if a way may be.
func fits(s api.Seg) bool {
	for _, n := range []int{s.A.X, s.A.Y, s.B.X, s.B.Y} {
		if n < -most || n > most {
			return false
		}
	}
	return true
}

// f answers a fraction by its parts, just as they are given.
func f(neg bool, n, d []uint32) api.Frac {
	return api.Frac{N: api.Whole{Neg: neg, Abs: n}, D: d}
}

// of answers n by d, not reduced.
func of(n, d int) api.Frac {
	return f(n < 0, []uint32{uint32(max(n, -n))}, []uint32{uint32(d)})
}

// at answers a spot of n by d, of both parts alike.
func at(x, y, d int) api.Spot { return api.Spot{X: of(x, d), Y: of(y, d)} }

// edge answers an edge, of its parts by d.
func edge(ax, ay, bx, by, d int) api.Edge { return api.Edge{A: at(ax, ay, d), B: at(bx, by, d)} }

// turned answers an edge the other way round.
func turned(e api.Edge) api.Edge { return api.Edge{A: e.B, B: e.A} }

// forms are spots in forms on which calls may stumble, and what they are worth: 0 in each of its forms, words of 0 at the end, common factors.
func forms(p api.Point) []api.Spot {
	one := func(n int) []api.Frac {
		abs := uint32(max(n, -n))
		out := []api.Frac{f(n < 0, []uint32{abs}, []uint32{1}), f(n < 0, []uint32{abs, 0, 0}, []uint32{1, 0}), f(n < 0, []uint32{3 * abs}, []uint32{3}), f(n < 0, []uint32{0, 5 * abs, 0}, []uint32{0, 5})}
		if n == 0 {
			out = append(out, api.Frac{}, f(true, []uint32{7}, nil), f(false, []uint32{7, 1}, []uint32{0, 0}), f(true, []uint32{0, 0}, []uint32{9}), f(true, nil, []uint32{9, top}))
		}
		return out
	}
	var out []api.Spot
	for _, x := range one(p.X) {
		for _, y := range one(p.Y) {
			out = append(out, api.Spot{X: x, Y: y})
		}
	}
	return out
}

// huge are fractions far beyond the limits, and such as are beyond them by next to nothing, or within.
func huge() []api.Frac {
	small := []uint32{1, 0, 0, 1}
	bit := func(n uint32, less bool) api.Frac { // n, and one by 2^96 and 1 more or less
		abs := []uint32{n, 0, 0, n}
		if less {
			abs[0]--
		} else {
			abs[0]++
		}
		return f(false, abs, small)
	}
	out := []api.Frac{
		f(false, []uint32{0, 0, 1}, []uint32{1}), f(false, []uint32{0, 0, 1}, []uint32{3}), f(false, []uint32{0, 1 << 31}, []uint32{1}), f(false, []uint32{top, top >> 1}, []uint32{1}),
		f(false, []uint32{1 << 23}, []uint32{1}), f(false, []uint32{most}, []uint32{1}), bit(most, false), bit(most, true), bit(1<<23, false), bit(1<<23, true), bit(2, false), bit(2, true), f(false, []uint32{1}, small),
	}
	for _, a := range slices.Clone(out) {
		a.N.Neg = true
		out = append(out, a)
	}
	return append(out, of(0, 1))
}

// hugeSpots are spots of such parts.
func hugeSpots() []api.Spot {
	var out []api.Spot
	for _, x := range huge() {
		for _, y := range huge() {
			out = append(out, api.Spot{X: x, Y: y})
		}
	}
	return out
}

// pair is a point in the library's numbers.
type pair struct{ x, y *big.Rat }

// number answers an int in the library's numbers.
func number(n int) *big.Rat { return new(big.Rat).SetInt64(int64(n)) }

func sum(a, b *big.Rat) *big.Rat  { return new(big.Rat).Add(a, b) }
func less(a, b *big.Rat) *big.Rat { return new(big.Rat).Sub(a, b) }
func mul(a, b *big.Rat) *big.Rat  { return new(big.Rat).Mul(a, b) }

// size answers what words are worth, by the library's own reckoning.
func size(a []uint32) *big.Int {
	out := new(big.Int)
	for i := len(a) - 1; i >= 0; i-- {
		out.Lsh(out, 32)
		out.Or(out, big.NewInt(int64(a[i])))
	}
	return out
}

// worth answers what a fraction is worth: 0 by a D of 0.
func worth(a api.Frac) *big.Rat {
	d := size(a.D)
	if d.Sign() == 0 {
		return new(big.Rat)
	}
	n := size(a.N.Abs)
	if a.N.Neg {
		n.Neg(n)
	}
	return new(big.Rat).SetFrac(n, d)
}

func worths(p api.Spot) pair  { return pair{worth(p.X), worth(p.Y)} }
func point(p api.Point) pair  { return pair{number(p.X), number(p.Y)} }
func (a pair) is(b pair) bool { return a.x.Cmp(b.x) == 0 && a.y.Cmp(b.y) == 0 }
func text(p pair) string      { return p.x.RatString() + " " + p.y.RatString() }

// middle answers what is half way.
func middle(a, b pair) pair {
	half := big.NewRat(1, 2)
	return pair{mul(half, sum(a.x, b.x)), mul(half, sum(a.y, b.y))}
}

// side answers on which side of a line a point is: 1 to the left.
func side(a, b, p pair) int {
	return mul(less(b.x, a.x), less(p.y, a.y)).Cmp(mul(less(b.y, a.y), less(p.x, a.x)))
}

// goesOver answers if a point is on a way: on its line, and not beyond an end, as told by the corner that both ends have at the point.
func goesOver(s api.Seg, p pair) bool {
	a, b := point(s.A), point(s.B)
	corner := sum(mul(less(a.x, p.x), less(b.x, p.x)), mul(less(a.y, p.y), less(b.y, p.y)))
	return side(a, b, p) == 0 && corner.Sign() <= 0 && (s.A != s.B || a.is(p))
}

// turns answers what Turns is to answer: by the chapter's words.
func turns(l []api.Seg, p pair) (int, bool) {
	out := 0
	for _, s := range l {
		if !fits(s) {
			continue
		}
		if goesOver(s, p) {
			return 0, false
		}
		a, b := point(s.A), point(s.B)
		switch hand := side(a, b, p); {
		case a.y.Cmp(p.y) <= 0 && b.y.Cmp(p.y) > 0 && hand > 0:
			out++
		case b.y.Cmp(p.y) <= 0 && a.y.Cmp(p.y) > 0 && hand < 0:
			out--
		}
	}
	return out, true
}

// besides answers what Beside is to answer, in another way than the chapter says it: by the turns a little aside of the middle, on the line of its height, or above and below it. So little: nothing that isn't on the middle comes as near to it.
func besides(l []api.Seg, a, b pair) (int, int, bool) {
	if a.is(b) {
		return 0, 0, false
	}
	m := middle(a, b)
	for _, s := range l {
		from, to := point(s.A), point(s.B)
		if fits(s) && s.A != s.B && goesOver(s, m) && (side(a, b, from) != 0 || side(a, b, to) != 0 || m.is(from) || m.is(to)) {
			return 0, 0, false
		}
	}
	step := new(big.Rat).SetFrac(big.NewInt(1), new(big.Int).Lsh(new(big.Int).Mul(m.x.Denom(), m.y.Denom()), 30))
	if a.y.Cmp(b.y) > 0 || a.y.Cmp(b.y) == 0 && a.x.Cmp(b.x) > 0 {
		step.Neg(step)
	}
	left, right := pair{less(m.x, step), m.y}, pair{sum(m.x, step), m.y}
	if a.y.Cmp(b.y) == 0 {
		left, right = pair{m.x, sum(m.y, step)}, pair{m.x, less(m.y, step)}
	}
	n, ok := turns(somewhere(l), left)
	k, also := turns(somewhere(l), right)
	if !ok || !also {
		panic("a little aside there is a way")
	}
	return n, k, true
}

// somewhere answers the ways that go somewhere.
func somewhere(l []api.Seg) []api.Seg {
	return slices.DeleteFunc(slices.Clone(l), func(s api.Seg) bool { return s.A == s.B })
}

// lists are where an edge's words are.
func lists(e *api.Edge) []*[]uint32 {
	return []*[]uint32{&e.A.X.N.Abs, &e.A.X.D, &e.A.Y.N.Abs, &e.A.Y.D, &e.B.X.N.Abs, &e.B.X.D, &e.B.Y.N.Abs, &e.B.Y.D}
}

// copied answers an edge in words of its own.
func copied(e api.Edge) api.Edge {
	for _, words := range lists(&e) {
		*words = slices.Clone(*words)
	}
	return e
}

// unchanged tells of a list of ways, or an edge, that isn't as it was.
func unchanged(t *testing.T, what string, l, was []api.Seg, e, wasEdge api.Edge) {
	t.Helper()
	if !slices.Equal(l, was) {
		t.Errorf("%s changed %v to %v", what, was, l)
	}
	for i, words := range lists(&e) {
		if !slices.Equal(*words, *lists(&wasEdge)[i]) {
			t.Errorf("%s changed %v to %v", what, wasEdge, e)
		}
	}
}

// turnsAre holds what Turns answers against what is wanted, and what it was handed against what that was.
func turnsAre(t *testing.T, l []api.Seg, p api.Spot, want int, ok bool) {
	t.Helper()
	was, wasAt := slices.Clone(l), copied(api.Edge{A: p})
	if n, told := turn.Turns(l, p); n != want || told != ok {
		t.Errorf("Turns(%v, %s): %d, %t, not %d, %t", l, text(worths(p)), n, told, want, ok)
	}
	unchanged(t, "Turns", l, was, api.Edge{A: p}, wasAt)
}

// turnsHold holds what Turns answers against the model.
func turnsHold(t *testing.T, l []api.Seg, p api.Spot) {
	t.Helper()
	want, ok := turns(l, worths(p))
	turnsAre(t, l, p, want, ok)
}

// besideIs holds what Beside answers against what is wanted, of the edge and of the edge turned round, and what it was handed against what that was.
func besideIs(t *testing.T, l []api.Seg, e api.Edge, left, right int, ok bool) {
	t.Helper()
	was, wasEdge := slices.Clone(l), copied(e)
	tell := func(way string, n, k int, told bool, left, right int) {
		t.Helper()
		if n != left || k != right || told != ok {
			t.Errorf("Beside(%v, %s to %s)%s: %d, %d, %t, not %d, %d, %t", l, text(worths(e.A)), text(worths(e.B)), way, n, k, told, left, right, ok)
		}
	}
	n, k, told := turn.Beside(l, e)
	tell("", n, k, told, left, right)
	n, k, told = turn.Beside(l, turned(e))
	tell(" turned round", n, k, told, right, left)
	unchanged(t, "Beside", l, was, e, wasEdge)
}

// besideHolds holds what Beside answers against the model.
func besideHolds(t *testing.T, l []api.Seg, e api.Edge) {
	t.Helper()
	left, right, ok := besides(l, worths(e.A), worths(e.B))
	besideIs(t, l, e, left, right, ok)
}

// grid answers all ways between points of so many columns and rows, those that go nowhere among them.
func grid(columns, rows int) []api.Seg {
	var out []api.Seg
	many := columns * rows
	for i := range many {
		for k := range many {
			out = append(out, way(i%columns, i/columns, k%columns, k/columns))
		}
	}
	return out
}

// spots answers the spots from -1 to so many columns and rows, d of them to a step.
func spots(columns, rows, d int) []api.Spot {
	var out []api.Spot
	for x := -d; x <= columns*d; x++ {
		for y := -d; y <= rows*d; y++ {
			out = append(out, at(x, y, d))
		}
	}
	return out
}

// dice answers the same numbers each time.
type dice uint64

func (d *dice) roll(n int) int {
	*d = *d*6364136223846793005 + 1442695040888963407
	return int(*d>>33) % n
}

// size answers any number that isn't further from 0 than n; often one at the edges, or small.
func (d *dice) size(n int) int {
	switch d.roll(8) {
	case 0:
		return n - d.roll(3)
	case 1:
		return d.roll(3) - n
	case 2:
		return max(-n, min(n, d.roll(21)-10))
	}
	return d.roll(2*n+1) - n
}

// point answers a point within n of 0.
func (d *dice) point(n int) api.Point { return pt(d.size(n), d.size(n)) }

// ways answers so many ways within n of 0; some go nowhere, some begin where others end, some go along others, and some may not be.
func (d *dice) ways(many, n int) []api.Seg {
	var out []api.Seg
	for range many {
		s := api.Seg{A: d.point(n), B: d.point(n)}
		if len(out) > 0 {
			o := out[d.roll(len(out))]
			switch d.roll(6) {
			case 0:
				s.A = o.B
			case 1:
				s = back(o)
			case 2:
				s = o
			case 3:
				s.A, s.B = o.A, pt(max(-n, min(n, 2*o.B.X-o.A.X)), max(-n, min(n, 2*o.B.Y-o.A.Y)))
			}
		}
		switch d.roll(16) {
		case 0:
			s.B = s.A
		case 1:
			s.A.X = far[d.roll(len(far))]
		case 2:
			s.A.Y = s.B.Y
		case 3:
			s.A.X = s.B.X
		}
		out = append(out, s)
	}
	return out
}

// loops answers ways that close, within n of 0.
func (d *dice) loops(many, n int) []api.Seg {
	var out []api.Seg
	for range many {
		var pts []api.Point
		for range 1 + d.roll(7) {
			pts = append(pts, d.point(n))
		}
		if d.roll(3) == 0 { // once there and once back, or around twice
			pts = append(pts, pts...)
		}
		out = append(out, loop(pts...)...)
	}
	return out
}

// spot answers a spot that has to do with ways within n of 0: on one of them, close to one, at one's height, or anywhere.
func (d *dice) spot(l []api.Seg, n int) api.Spot {
	any := api.Spot{X: of(d.size(n)+d.roll(3), 1+d.roll(9)), Y: of(d.size(n)+d.roll(3), 1+d.roll(9))}
	if len(l) == 0 {
		return any
	}
	s := l[d.roll(len(l))]
	on := spot.Toward(spot.At(s.A), spot.At(s.B), of(d.roll(8)-1, 1+d.roll(6)))
	switch d.roll(5) {
	case 0:
		return on
	case 1:
		return spot.Toward(on, any, f(false, []uint32{1}, []uint32{1, 0, 1 + uint32(d.roll(5))}))
	case 2:
		return api.Spot{X: any.X, Y: on.Y}
	case 3:
		return spot.At(s.A)
	}
	return any
}
