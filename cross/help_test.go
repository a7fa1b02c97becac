package cross_test

import (
	"math"
	"math/big"
	"slices"
	"strings"
	"testing"

	"frisket/api"
	"frisket/cross"
)

// most is a coordinate's size at its limit, told by itself so that one that is another one shows.
const most = 8388607

// far are numbers beyond whatever limits there are.
var far = []int{math.MinInt, math.MinInt + 1, -1 << 62, -1 << 32, -1 << 31, -most - 2, -most - 1, most + 1, most + 2, 1 << 24, 1 << 31, 1 << 32, 1<<32 + 2, 1 << 62, math.MaxInt - 1, math.MaxInt}

// pt answers a point.
func pt(x, y int) api.Point { return api.Point{X: x, Y: y} }

// way answers a way, told by its ends' parts.
func way(ax, ay, bx, by int) api.Seg { return api.Seg{A: pt(ax, ay), B: pt(bx, by)} }

// turned answers a way the other way round.
func turned(s api.Seg) api.Seg { return api.Seg{A: s.B, B: s.A} }

// wrongPoints are points that may not be.
func wrongPoints() []api.Point {
	var out []api.Point
	for _, n := range far {
		out = append(out, pt(n, 0), pt(0, n), pt(n, n), pt(n, -n), pt(most, n), pt(n, -most))
	}
	return out
}

// wrongWays are ways that may not be, by one end or by both; some go through 0 0, or are a point.
func wrongWays() []api.Seg {
	var out []api.Seg
	for _, p := range wrongPoints() {
		for _, q := range []api.Point{pt(0, 0), pt(2, 2), pt(-1, 3), p, pt(p.Y, p.X)} {
			out = append(out, api.Seg{A: p, B: q}, api.Seg{A: q, B: p})
		}
	}
	return out
}

// fits answers if a way may be.
func fits(s api.Seg) bool {
	for _, n := range []int{s.A.X, s.A.Y, s.B.X, s.B.Y} {
		if n < -most || n > most {
			return false
		}
	}
	return true
}

// pair is a point in the library's numbers.
type pair struct{ x, y *big.Rat }

// number answers an int in the library's numbers.
func number(n int) *big.Rat { return new(big.Rat).SetInt64(int64(n)) }

// at answers a point of the grid.
func at(p api.Point) pair { return pair{number(p.X), number(p.Y)} }

func (a pair) is(b pair) bool { return a.x.Cmp(b.x) == 0 && a.y.Cmp(b.y) == 0 }

// above answers if a stands behind b: by X, then by Y.
func (a pair) above(b pair) bool {
	by := a.x.Cmp(b.x)
	return by > 0 || by == 0 && a.y.Cmp(b.y) > 0
}

// along answers what lies a part of a way's length from its beginning.
func along(s api.Seg, part *big.Rat) pair {
	one := func(a, b int) *big.Rat {
		out := new(big.Rat).Mul(number(b-a), part)
		return out.Add(out, number(a))
	}
	return pair{one(s.A.X, s.B.X), one(s.A.Y, s.B.Y)}
}

// slack is a number at a way's beginning and at its end, which grows straight between: of a point that is wanted it isn't below 0.
type slack struct{ begin, end int }

// slacks answers what holds a way's points to be points of another one: within its box, not to the left of it, and not to the right.
func slacks(s, t api.Seg) []slack {
	left := func(p api.Point) int { return (t.B.X-t.A.X)*(p.Y-t.A.Y) - (t.B.Y-t.A.Y)*(p.X-t.A.X) }
	a, b := left(s.A), left(s.B)
	l, r := min(t.A.X, t.B.X), max(t.A.X, t.B.X)
	u, v := min(t.A.Y, t.B.Y), max(t.A.Y, t.B.Y)
	return []slack{{a, b}, {-a, -b}, {s.A.X - l, s.B.X - l}, {r - s.A.X, r - s.B.X}, {s.A.Y - u, s.B.Y - u}, {v - s.A.Y, v - s.B.Y}}
}

// span answers the parts of a way's length from which and to which it is on another one; false, where it isn't: it is cut off by one slack after the other.
func span(s, t api.Seg) (*big.Rat, *big.Rat, bool) {
	from, to := number(0), number(1)
	for _, l := range slacks(s, t) {
		switch {
		case l.begin < 0 && l.end < 0:
			return nil, nil, false
		case l.begin < 0 || l.end < 0:
			cut := new(big.Rat).SetFrac(big.NewInt(int64(l.begin)), new(big.Int).Sub(big.NewInt(int64(l.begin)), big.NewInt(int64(l.end))))
			if l.begin < 0 && cut.Cmp(from) > 0 {
				from = cut
			}
			if l.end < 0 && cut.Cmp(to) < 0 {
				to = cut
			}
		}
	}
	return from, to, from.Cmp(to) <= 0
}

// meet answers what Meet is to answer.
func meet(s, t api.Seg) []pair {
	if !fits(s) || !fits(t) {
		return nil
	}
	from, to, ok := span(s, t)
	if !ok {
		return nil
	}
	a, b := along(s, from), along(s, to)
	switch {
	case a.is(b):
		return []pair{a}
	case a.above(b):
		return []pair{b, a}
	}
	return []pair{a, b}
}

// cuts answers what Cuts is to answer: ordered by how far it is from the way's beginning.
func cuts(s api.Seg, l []api.Seg) []pair {
	if !fits(s) {
		return nil
	}
	all := []pair{at(s.A), at(s.B)}
	for _, t := range l {
		all = append(all, meet(s, t)...)
	}
	gap := func(a, b *big.Rat) *big.Rat {
		out := new(big.Rat).Sub(a, b)
		return out.Abs(out)
	}
	begin := at(s.A)
	distance := func(p pair) *big.Rat {
		out := gap(p.x, begin.x)
		return out.Add(out, gap(p.y, begin.y))
	}
	slices.SortFunc(all, func(a, b pair) int { return distance(a).Cmp(distance(b)) })
	return slices.CompactFunc(all, pair.is)
}

// through answers what Cross is to answer.
func through(s, t api.Seg) bool {
	l := meet(s, t)
	return len(l) == 1 && !slices.ContainsFunc([]api.Point{s.A, s.B, t.A, t.B}, func(p api.Point) bool { return at(p).is(l[0]) })
}

// words answers the words of a number that isn't below 0.
func words(v *big.Int) []uint32 {
	var out []uint32
	for left := new(big.Int).Set(v); left.Sign() > 0; left.Rsh(left, 32) {
		out = append(out, uint32(new(big.Int).And(left, big.NewInt(1<<32-1)).Uint64()))
	}
	return out
}

// alike tells if a fraction is a number in its one form, word by word.
func alike(a api.Frac, v *big.Rat) bool {
	return a.N.Neg == (v.Sign() < 0) && slices.Equal(a.N.Abs, words(size(v.Num()))) && slices.Equal(a.D, words(v.Denom()))
}

// size answers how far from 0 a number is.
func size(v *big.Int) *big.Int { return new(big.Int).Abs(v) }

// text tells points.
func text(l []pair) string {
	var out []string
	for _, p := range l {
		out = append(out, p.x.RatString()+" "+p.y.RatString())
	}
	return strings.Join(out, ", ")
}

// told answers the points that a text tells.
func told(t *testing.T, s string) []pair {
	t.Helper()
	var out []pair
	for _, p := range strings.Split(s, ", ") {
		if p == "" {
			continue
		}
		a, b, _ := strings.Cut(p, " ")
		x, isX := new(big.Rat).SetString(a)
		y, isY := new(big.Rat).SetString(b)
		if !isX || !isY {
			t.Fatalf("%q is no point", p)
		}
		out = append(out, pair{x, y})
	}
	return out
}

// spotsAre tells of spots that aren't, word by word, what is wanted.
func spotsAre(t *testing.T, what string, a, b any, got []api.Spot, want []pair) {
	t.Helper()
	if !slices.EqualFunc(got, want, func(g api.Spot, w pair) bool { return alike(g.X, w.x) && alike(g.Y, w.y) }) {
		t.Errorf("%s(%v, %v): %v, not %s", what, a, b, got, text(want))
	}
}

// lists are a spot's words.
func lists(p api.Spot) [][]uint32 {
	return [][]uint32{p.X.N.Abs, p.X.D, p.Y.N.Abs, p.Y.D}
}

// apartIs makes each word of an answer one more, and tells of such as then aren't: they are another one's, too.
func apartIs(t *testing.T, got []api.Spot, want []pair) {
	t.Helper()
	for _, p := range got {
		for _, l := range lists(p) {
			for i := range l {
				l[i]++
			}
		}
	}
	for i, p := range got {
		x, y := want[i].x, want[i].y
		for k, n := range []*big.Int{size(x.Num()), x.Denom(), size(y.Num()), y.Denom()} {
			if l := words(n); len(l) > 0 && lists(p)[k][0] != l[0]+1 {
				t.Errorf("of %s a word is shared", text(want))
			}
		}
	}
}

// meetIs holds what Meet answers against what is wanted: both ways, and of ways turned round.
func meetIs(t *testing.T, s, u api.Seg, want []pair) {
	t.Helper()
	for _, a := range []api.Seg{s, turned(s)} {
		for _, b := range []api.Seg{u, turned(u)} {
			spotsAre(t, "Meet", a, b, cross.Meet(a, b), want)
			spotsAre(t, "Meet", b, a, cross.Meet(b, a), want)
		}
	}
}

// crossIs holds what Cross answers against what is wanted, likewise.
func crossIs(t *testing.T, s, u api.Seg, want bool) {
	t.Helper()
	for _, a := range []api.Seg{s, turned(s)} {
		for _, b := range []api.Seg{u, turned(u)} {
			if got := cross.Cross(a, b); got != want {
				t.Errorf("Cross(%v, %v): %t", a, b, got)
			}
			if got := cross.Cross(b, a); got != want {
				t.Errorf("Cross(%v, %v): %t", b, a, got)
			}
		}
	}
}

// cutsIs holds what Cuts answers against what is wanted, from both sides, and what it was handed against what that was.
func cutsIs(t *testing.T, s api.Seg, l []api.Seg, want []pair) {
	t.Helper()
	was := slices.Clone(l)
	spotsAre(t, "Cuts", s, l, cross.Cuts(s, l), want)
	back := slices.Clone(want)
	slices.Reverse(back)
	spotsAre(t, "Cuts", turned(s), l, cross.Cuts(turned(s), l), back)
	if !slices.Equal(l, was) {
		t.Errorf("Cuts changed %v to %v", was, l)
	}
}

// grid answers all ways between points of so many columns and rows, those that go nowhere among them.
func grid(columns, rows int) []api.Seg {
	var out []api.Seg
	many := columns * rows
	for i := range many {
		for k := range many {
			out = append(out, way(i%columns, i/columns, k%columns, k/columns))
		}
	}
	return out
}

// dice answers the same numbers each time.
type dice uint64

func (d *dice) roll(n int) int {
	*d = *d*6364136223846793005 + 1442695040888963407
	return int(*d>>33) % n
}

// size answers any number that isn't further from 0 than n; often one at the edges, or small.
func (d *dice) size(n int) int {
	switch d.roll(8) {
	case 0:
		return n - d.roll(3)
	case 1:
		return d.roll(3) - n
	case 2:
		return max(-n, min(n, d.roll(21)-10))
	}
	return d.roll(2*n+1) - n
}

// point answers a point within n of 0.
func (d *dice) point(n int) api.Point { return pt(d.size(n), d.size(n)) }

// way answers a way within n of 0; one of some is a point.
func (d *dice) way(n int) api.Seg {
	out := api.Seg{A: d.point(n), B: d.point(n)}
	if d.roll(12) == 0 {
		out.B = out.A
	}
	return out
}

// beside answers a way that has to do with another one within n of 0: it begins on it or close to it, or goes the same way as far as it may.
func (d *dice) beside(s api.Seg, n int) api.Seg {
	by := pt(s.B.X-s.A.X, s.B.Y-s.A.Y)
	on := func() api.Point {
		of := 1 + d.roll(4)
		return d.within(pt(s.A.X+by.X/of*d.roll(of+2)+d.roll(3)-1, s.A.Y+by.Y/of*d.roll(of+2)+d.roll(3)-1), n)
	}
	switch d.roll(4) {
	case 0:
		return api.Seg{A: on(), B: on()}
	case 1:
		return api.Seg{A: on(), B: d.point(n)}
	case 2:
		return api.Seg{A: s.A, B: on()}
	}
	return api.Seg{A: d.point(n), B: s.B}
}

// within answers a point, moved as near to 0 as told.
func (d *dice) within(p api.Point, n int) api.Point {
	return pt(max(-n, min(n, p.X)), max(-n, min(n, p.Y)))
}
