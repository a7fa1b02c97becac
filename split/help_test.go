package split_test

import (
	"math"
	"math/big"
	"slices"
	"strings"
	"testing"

	"frisket/api"
	"frisket/split"
)

const (
	most = 8388607 // a coordinate's size at its limit, told by itself so that one that is another one shows
	top  = 1<<32 - 1
)

// far are numbers beyond whatever limits there are.
var far = []int{math.MinInt, math.MinInt + 1, -1 << 62, -1 << 32, -1 << 31, -most - 2, -most - 1, most + 1, most + 2, 1 << 24, 1 << 31, 1 << 32, 1<<32 + 2, 1 << 62, math.MaxInt - 1, math.MaxInt}

// pt answers a point.
func pt(x, y int) api.Point { return api.Point{X: x, Y: y} }

// way answers a way, told by its ends' parts.
func way(ax, ay, bx, by int) api.Seg { return api.Seg{A: pt(ax, ay), B: pt(bx, by)} }

// back answers a way the other way round.
func back(s api.Seg) api.Seg { return api.Seg{A: s.B, B: s.A} }

// wrongWays are ways that may not be, by one end or by both; some go through 0 0, or are a point.
func wrongWays() []api.Seg {
	var out []api.Seg
	for _, n := range far {
		for _, p := range []api.Point{pt(n, 0), pt(0, n), pt(n, n), pt(n, -n), pt(most, n), pt(n, -most)} {
			for _, q := range []api.Point{pt(0, 0), pt(2, 2), pt(-1, 3), p, pt(p.Y, p.X)} {
				out = append(out, api.Seg{A: p, B: q}, api.Seg{A: q, B: p})
			}
		}
	}
	return out
}

// fits answers if a way may be.
func fits(s api.Seg) bool {
	for _, n := range []int{s.A.X, s.A.Y, s.B.X, s.B.Y} {
		if n < -most || n > most {
			return false
		}
	}
	return true
}

// f answers a fraction by its parts, just as they are given.
func f(neg bool, n, d []uint32) api.Frac {
	return api.Frac{N: api.Whole{Neg: neg, Abs: n}, D: d}
}

// of answers n by d, not reduced.
func of(n, d int) api.Frac {
	return f(n < 0, []uint32{uint32(max(n, -n))}, []uint32{uint32(d)})
}

// parts are fractions on which calls may stumble: 0 in each of its forms, words of 0 at the end, common factors, one number in several forms, and what is at, below and above 2^32 and 2^64.
func parts() []api.Frac {
	return []api.Frac{
		{}, f(true, []uint32{5}, nil), f(false, []uint32{7, 1}, []uint32{0, 0}), f(true, []uint32{0, 0}, []uint32{9}), of(0, 1),
		of(1, 1), f(false, []uint32{6, 0}, []uint32{6, 0, 0}), of(-1, 1), f(true, []uint32{4}, []uint32{4, 0}), of(2, 1), of(-4, 2),
		of(1, 2), f(false, []uint32{0, 3}, []uint32{0, 6, 0}), of(-6, 4), of(2, 3), of(-1, 3), of(7, 5),
		f(false, []uint32{top}, []uint32{1}), f(true, []uint32{0, 1, 0}, []uint32{1}), f(false, []uint32{top, top}, []uint32{top}), f(true, []uint32{0, 0, 1}, []uint32{3}),
		f(false, []uint32{1}, []uint32{0, 0, 1}), f(true, []uint32{1, 0, 0, 1}, []uint32{top, 7}),
	}
}

// edges are edges of such parts.
func edges() []api.Edge {
	l := parts()
	part := func(n int) api.Frac { return l[n%len(l)] }
	var out []api.Edge
	for i := range l {
		for _, by := range []int{0, 1, 6, 13} {
			out = append(out, api.Edge{A: api.Spot{X: part(i), Y: part(i + by)}, B: api.Spot{X: part(i + 2*by), Y: part(i + 5)}})
		}
	}
	return out
}

// few are edges between a few points, each in several forms; they differ in each of their four parts alone.
func few() []api.Edge {
	var out []api.Edge
	for k := range 4 {
		for _, n := range []int{-1, 0, 1} {
			for _, d := range []int{1, 3} {
				p := [4]api.Frac{of(0, 1), of(0, 0), of(0, 5), of(0, 1)}
				p[k] = of(n*d, d)
				out = append(out, edgeOf(p))
			}
		}
	}
	return out
}

// edgeOf answers an edge by its four parts.
func edgeOf(p [4]api.Frac) api.Edge {
	return api.Edge{A: api.Spot{X: p[0], Y: p[1]}, B: api.Spot{X: p[2], Y: p[3]}}
}

// pair is a point in the library's numbers.
type pair struct{ x, y *big.Rat }

func (a pair) cmp(b pair) int {
	if by := a.x.Cmp(b.x); by != 0 {
		return by
	}
	return a.y.Cmp(b.y)
}

// link is an edge in the library's numbers.
type link struct{ a, b pair }

func (e link) cmp(o link) int {
	if by := e.a.cmp(o.a); by != 0 {
		return by
	}
	return e.b.cmp(o.b)
}

// put puts something into a list that is in order, unless it is there.
func put[T any](l []T, one T, cmp func(a, b T) int) []T {
	i, there := slices.BinarySearchFunc(l, one, cmp)
	if there {
		return l
	}
	return slices.Insert(l, i, one)
}

// number answers an int in the library's numbers.
func number(n int) *big.Rat { return new(big.Rat).SetInt64(int64(n)) }

// size answers what words are worth, by the library's own reckoning.
func size(a []uint32) *big.Int {
	out := new(big.Int)
	for i := len(a) - 1; i >= 0; i-- {
		out.Lsh(out, 32)
		out.Or(out, big.NewInt(int64(a[i])))
	}
	return out
}

// worth answers what a fraction is worth: 0 by a D of 0.
func worth(a api.Frac) *big.Rat {
	d := size(a.D)
	if d.Sign() == 0 {
		return new(big.Rat)
	}
	n := size(a.N.Abs)
	if a.N.Neg {
		n.Neg(n)
	}
	return new(big.Rat).SetFrac(n, d)
}

func worths(p api.Spot) pair      { return pair{worth(p.X), worth(p.Y)} }
func linkOf(e api.Edge) link      { return link{worths(e.A), worths(e.B)} }
func linkBack(e api.Edge) link    { return link{worths(e.B), worths(e.A)} }
func at(p api.Point) pair         { return pair{number(p.X), number(p.Y)} }
func linksOf(l []api.Edge) []link { return each(l, linkOf) }

// each answers what becomes of each of a list.
func each[T, U any](l []T, to func(T) U) []U {
	out := make([]U, len(l))
	for i, one := range l {
		out[i] = to(one)
	}
	return out
}

// row answers what Row is to answer.
func row(l []api.Edge) []link {
	var out []link
	for _, e := range l {
		out = put(out, linkOf(e), link.cmp)
	}
	return out
}

// ends answers what Ends is to answer.
func ends(l []api.Edge) []pair {
	var out []pair
	for _, e := range l {
		out = put(put(out, worths(e.A), pair.cmp), worths(e.B), pair.cmp)
	}
	return out
}

// along answers what lies a part of a way's length from its beginning.
func along(s api.Seg, part *big.Rat) pair {
	one := func(a, b int) *big.Rat {
		out := new(big.Rat).Mul(number(b-a), part)
		return out.Add(out, number(a))
	}
	return pair{one(s.A.X, s.B.X), one(s.A.Y, s.B.Y)}
}

// slack is a number at a way's beginning and at its end, which grows straight between: of a point that is wanted it isn't below 0.
type slack struct{ begin, end int }

// slacks answers what holds a way's points to be points of another one: within its box, not to the left of it, and not to the right.
func slacks(s, t api.Seg) []slack {
	left := func(p api.Point) int { return (t.B.X-t.A.X)*(p.Y-t.A.Y) - (t.B.Y-t.A.Y)*(p.X-t.A.X) }
	a, b := left(s.A), left(s.B)
	l, r := min(t.A.X, t.B.X), max(t.A.X, t.B.X)
	u, v := min(t.A.Y, t.B.Y), max(t.A.Y, t.B.Y)
	return []slack{{a, b}, {-a, -b}, {s.A.X - l, s.B.X - l}, {r - s.A.X, r - s.B.X}, {s.A.Y - u, s.B.Y - u}, {v - s.A.Y, v - s.B.Y}}
}

// span answers the parts of a way's length from which and to which it is on another one; none, where it isn't: it is cut off by one slack after the other.
func span(s, t api.Seg) []*big.Rat {
	from, to := number(0), number(1)
	for _, l := range slacks(s, t) {
		switch {
		case l.begin < 0 && l.end < 0:
			return nil
		case l.begin < 0 || l.end < 0:
			cut := new(big.Rat).SetFrac(big.NewInt(int64(l.begin)), new(big.Int).Sub(big.NewInt(int64(l.begin)), big.NewInt(int64(l.end))))
			if l.begin < 0 && cut.Cmp(from) > 0 {
				from = cut
			}
			if l.end < 0 && cut.Cmp(to) < 0 {
				to = cut
			}
		}
	}
	if from.Cmp(to) > 0 {
		return nil
	}
	return []*big.Rat{from, to}
}

// pieces answers what Pieces is to answer: each way is cut at the parts of its length where it comes to another one, or leaves it.
func pieces(l []api.Seg) []link {
	var out []link
	for _, s := range l {
		if !fits(s) || s.A == s.B {
			continue
		}
		cuts := []*big.Rat{number(0), number(1)}
		for _, t := range l {
			if fits(t) {
				for _, part := range span(s, t) {
					cuts = put(cuts, part, (*big.Rat).Cmp)
				}
			}
		}
		for i := range cuts[1:] {
			a, b := along(s, cuts[i]), along(s, cuts[i+1])
			if a.cmp(b) > 0 {
				a, b = b, a
			}
			out = put(out, link{a, b}, link.cmp)
		}
	}
	return out
}

// words answers the words of a number, its sign aside.
func words(v *big.Int) []uint32 {
	var out []uint32
	for left := new(big.Int).Abs(v); left.Sign() > 0; left.Rsh(left, 32) {
		out = append(out, uint32(new(big.Int).And(left, big.NewInt(top)).Uint64()))
	}
	return out
}

// alike tells if a fraction is a number in its one form, word by word.
func alike(a api.Frac, v *big.Rat) bool {
	return a.N.Neg == (v.Sign() < 0) && slices.Equal(a.N.Abs, words(v.Num())) && slices.Equal(a.D, words(v.Denom()))
}

func spotIs(p api.Spot, w pair) bool { return alike(p.X, w.x) && alike(p.Y, w.y) }
func edgeIs(e api.Edge, w link) bool { return spotIs(e.A, w.a) && spotIs(e.B, w.b) }

// text tells a point, and telling a link.
func text(p pair) string    { return p.x.RatString() + " " + p.y.RatString() }
func telling(e link) string { return text(e.a) + " to " + text(e.b) }

// toldPoint answers the point that a text tells.
func toldPoint(t *testing.T, s string) pair {
	t.Helper()
	a, b, _ := strings.Cut(s, " ")
	x, isX := new(big.Rat).SetString(a)
	y, isY := new(big.Rat).SetString(b)
	if !isX || !isY {
		t.Fatalf("%q is no point", s)
	}
	return pair{x, y}
}

// told answers the edges that a text tells; points between which there is "to" again are one edge behind the other.
func told(t *testing.T, s string) []link {
	t.Helper()
	var out []link
	for _, run := range strings.Split(s, ", ") {
		p := strings.Split(run, " to ")
		for i := range p[1:] {
			out = append(out, link{toldPoint(t, p[i]), toldPoint(t, p[i+1])})
		}
	}
	return out
}

// edgesAre tells of edges that aren't, word by word, what is wanted.
func edgesAre(t *testing.T, what string, of any, got []api.Edge, want []link) {
	t.Helper()
	if !slices.EqualFunc(got, want, edgeIs) {
		t.Errorf("%s(%v): %s, not %s", what, of, each(linksOf(got), telling), each(want, telling))
	}
}

// lists are where an edge's words are.
func lists(e *api.Edge) []*[]uint32 {
	return []*[]uint32{&e.A.X.N.Abs, &e.A.X.D, &e.A.Y.N.Abs, &e.A.Y.D, &e.B.X.N.Abs, &e.B.X.D, &e.B.Y.N.Abs, &e.B.Y.D}
}

// copied answers edges in words of their own.
func copied(l []api.Edge) []api.Edge {
	out := slices.Clone(l)
	for i := range out {
		for _, words := range lists(&out[i]) {
			*words = slices.Clone(*words)
		}
	}
	return out
}

// same tells if two edges are the same, word by word, in whatever form.
func same(a, b api.Edge) bool {
	for i, words := range lists(&a) {
		if !slices.Equal(*words, *lists(&b)[i]) {
			return false
		}
	}
	return a.A.X.N.Neg == b.A.X.N.Neg && a.A.Y.N.Neg == b.A.Y.N.Neg && a.B.X.N.Neg == b.B.X.N.Neg && a.B.Y.N.Neg == b.B.Y.N.Neg
}

// apartAre makes each word of an answer one more, and tells of such as then aren't one more: they are another one's, too.
func apartAre(t *testing.T, got []api.Edge) {
	t.Helper()
	was := copied(got)
	for i := range got {
		for _, words := range lists(&got[i]) {
			for k := range *words {
				(*words)[k]++
			}
		}
	}
	for i := range got {
		for k, words := range lists(&got[i]) {
			for n, word := range *words {
				if word != (*lists(&was[i])[k])[n]+1 {
					t.Errorf("of %s a word is shared", telling(linkOf(was[i])))
				}
			}
		}
	}
}

// piecesAre holds what Pieces answers against what is wanted, and what it was handed against what that was.
func piecesAre(t *testing.T, l []api.Seg, want []link) {
	t.Helper()
	was := slices.Clone(l)
	edgesAre(t, "Pieces", l, split.Pieces(l), want)
	if !slices.Equal(l, was) {
		t.Errorf("Pieces changed %v to %v", was, l)
	}
}

// grid answers all ways between points of so many columns and rows, those that go nowhere among them.
func grid(columns, rows int) []api.Seg {
	var out []api.Seg
	many := columns * rows
	for i := range many {
		for k := range many {
			out = append(out, way(i%columns, i/columns, k%columns, k/columns))
		}
	}
	return out
}

// dice answers the same numbers each time.
type dice uint64

func (d *dice) roll(n int) int {
	*d = *d*6364136223846793005 + 1442695040888963407
	return int(*d>>33) % n
}

// words answers up to so many words, many of them with all bits set or none.
func (d *dice) words(many int) []uint32 {
	out := make([]uint32, d.roll(many+1))
	for i := range out {
		out[i] = []uint32{uint32(d.roll(3)), top, uint32(d.roll(1 << 31)), uint32(d.roll(1<<31)) << 1}[d.roll(4)]
	}
	return out
}

// part answers a fraction of a few words, or one of few digits.
func (d *dice) part() api.Frac {
	if d.roll(2) == 0 {
		return of(d.roll(5)-2, d.roll(4))
	}
	return f(d.roll(2) == 0, d.words(2), d.words(2))
}

// edge answers an edge of such parts.
func (d *dice) edge() api.Edge {
	return edgeOf([4]api.Frac{d.part(), d.part(), d.part(), d.part()})
}

// size answers any number that isn't further from 0 than n; often one at the edges, or small.
func (d *dice) size(n int) int {
	switch d.roll(8) {
	case 0:
		return n - d.roll(3)
	case 1:
		return d.roll(3) - n
	case 2:
		return max(-n, min(n, d.roll(21)-10))
	}
	return d.roll(2*n+1) - n
}

// point answers a point within n of 0.
func (d *dice) point(n int) api.Point { return pt(d.size(n), d.size(n)) }

// way answers a way within n of 0; one of some is a point.
func (d *dice) way(n int) api.Seg {
	out := api.Seg{A: d.point(n), B: d.point(n)}
	if d.roll(12) == 0 {
		out.B = out.A
	}
	return out
}

// beside answers a way that has to do with another one within n of 0: it begins on it or close to it, or goes the same way as far as it may.
func (d *dice) beside(s api.Seg, n int) api.Seg {
	by := pt(s.B.X-s.A.X, s.B.Y-s.A.Y)
	on := func() api.Point {
		of := 1 + d.roll(4)
		x, y := s.A.X+by.X/of*d.roll(of+2)+d.roll(3)-1, s.A.Y+by.Y/of*d.roll(of+2)+d.roll(3)-1
		return pt(max(-n, min(n, x)), max(-n, min(n, y)))
	}
	switch d.roll(5) {
	case 0:
		return api.Seg{A: on(), B: on()}
	case 1:
		return api.Seg{A: on(), B: d.point(n)}
	case 2:
		return api.Seg{A: s.A, B: on()}
	case 3:
		return back(s)
	}
	return api.Seg{A: d.point(n), B: s.B}
}

// ways answers so many ways within n of 0, some of which have to do with others.
func (d *dice) ways(many, n int) []api.Seg {
	var out []api.Seg
	for range many {
		s := d.way(n)
		if len(out) > 0 && d.roll(3) > 0 {
			s = d.beside(out[d.roll(len(out))], n)
		}
		out = append(out, s)
	}
	return out
}
