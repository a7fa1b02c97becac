package dash_test

import (
	"math"
	"math/big"
	"slices"
	"testing"

	"frisket/api"
	"frisket/dash"
)

// The limits, told by themselves so that one that is another one shows: a coordinate's size (and a length's, and a phase's), lengths of a pattern, lengths along a line.
const (
	most   = 8388607
	dashes = 8
	lines  = 1000
)

// pt answers a point.
func pt(x, y int) api.Point { return api.Point{X: x, Y: y} }

// row answers points, told by their parts.
func row(parts ...int) []api.Point {
	var out []api.Point
	for i := 0; i+1 < len(parts); i += 2 {
		out = append(out, pt(parts[i], parts[i+1]))
	}
	return out
}

// open answers an open line, told by its points' parts.
func open(parts ...int) api.Line { return api.Line{Pts: row(parts...)} }

// closed answers a closed line, likewise.
func closed(parts ...int) api.Line { return api.Line{Pts: row(parts...), Closed: true} }

// fits answers if all points may be.
func fits(l []api.Point) bool {
	return !slices.ContainsFunc(l, func(p api.Point) bool { return p.X < -most || p.X > most || p.Y < -most || p.Y > most })
}

// wrongPoints are points that may not be.
func wrongPoints() []api.Point {
	var out []api.Point
	for _, n := range []int{math.MinInt, math.MinInt + 1, -1 << 62, -1 << 32, -1 << 24, -most - 2, -most - 1, most + 1, most + 2, 1 << 24, 1 << 32, 1 << 62, math.MaxInt} {
		out = append(out, pt(n, 0), pt(0, n), pt(n, n), pt(n, -n), pt(most, n), pt(n, -most))
	}
	return out
}

// may answers what May is to answer.
func may(pattern []int, phase int) bool {
	if len(pattern) > dashes || phase < 0 || phase > most {
		return false
	}
	return !slices.ContainsFunc(pattern, func(n int) bool { return n < 1 || n > most })
}

// total answers what Total is to answer.
func total(pattern []int) int {
	switch {
	case !may(pattern, 0):
		return 0
	case len(pattern)%2 == 1:
		return sum(slices.Concat(pattern, pattern))
	}
	return sum(pattern)
}

// sum answers all numbers together.
func sum(l []int) int {
	out := 0
	for _, n := range l {
		out += n
	}
	return out
}

// long answers a way's length.
func long(a, b api.Point) int {
	x, y := big.NewInt(int64(b.X-a.X)), big.NewInt(int64(b.Y-a.Y))
	x.Mul(x, x).Add(x, y.Mul(y, y))
	return int(x.Sqrt(x).Int64())
}

// near answers n by d as the nearest whole number, of two the greater one: the greatest one that isn't above the quotient and a half.
func near(n, d int) int {
	up := big.NewInt(int64(n))
	up.Lsh(up, 1).Add(up, big.NewInt(int64(d)))
	return int(up.Div(up, big.NewInt(int64(2*d))).Int64())
}

// ahead answers the point n from a on the way to b.
func ahead(a, b api.Point, n int) api.Point {
	d := long(a, b)
	if d == 0 {
		return a
	}
	return pt(a.X+near((b.X-a.X)*n, d), a.Y+near((b.Y-a.Y)*n, d))
}

// starts answers how far each point is from the line's beginning, and how long the line is.
func starts(l api.Line) ([]int, int) {
	var out []int
	end := 0
	for i, p := range l.Pts {
		if i > 0 {
			end += long(l.Pts[i-1], p)
		}
		out = append(out, end)
	}
	if n := len(l.Pts); l.Closed && n > 0 {
		end += long(l.Pts[n-1], l.Pts[0])
	}
	return out, end
}

// at answers what At is to answer: on the last way that begins no further than n.
func at(l api.Line, n int) (api.Point, bool) {
	far, end := starts(l)
	if len(l.Pts) == 0 || !fits(l.Pts) || n < 0 || n > end {
		return pt(0, 0), false
	}
	return on(l, far, n), true
}

// on answers the point at a distance that the line has, its points being as far as told.
func on(l api.Line, far []int, n int) api.Point {
	i := len(far) - 1
	for far[i] > n {
		i--
	}
	return ahead(l.Pts[i], l.Pts[(i+1)%len(l.Pts)], n-far[i])
}

// piece answers a line's points from one distance to another one, its points being as far as told.
func piece(l api.Line, far []int, from, to int) api.Line {
	var out []api.Point
	add := func(p api.Point) {
		if len(out) == 0 || out[len(out)-1] != p {
			out = append(out, p)
		}
	}
	add(on(l, far, from))
	for i, n := range far {
		if from < n && n < to {
			add(l.Pts[i])
		}
	}
	add(on(l, far, to))
	return api.Line{Pts: out}
}

// span is a length of a pattern along a line.
type span struct {
	from, to int
	drawn    bool
}

// spans answers the lengths that lie along a line, or one more than there may be: the pattern is gone through from where it began, length by length.
func spans(end int, pattern []int, phase int) []span {
	var out []span
	at := -phase
	for i := 0; at < end && len(out) <= lines; i++ {
		n := pattern[i%len(pattern)]
		if from, to := max(at, 0), min(at+n, end); from < to {
			out = append(out, span{from, to, i%2 == 0})
		}
		at += n
	}
	return out
}

// steps answers the same, but step by step: of each whether it is drawn; and a new length begins where the next one is of another kind.
func steps(end int, pattern []int, phase int) []span {
	two := slices.Concat(pattern, pattern)
	kind := func(step int) bool {
		left, i := (step+phase)%sum(two), 0
		for ; left >= two[i]; i++ {
			left -= two[i]
		}
		return i%2 == 0
	}
	var out []span
	for step := range end {
		if n := len(out); n > 0 && out[n-1].drawn == kind(step) {
			out[n-1].to++
		} else {
			out = append(out, span{step, step + 1, kind(step)})
		}
	}
	return out
}

// cut answers what Cut is to answer, by spans or steps.
func cut(l api.Line, pattern []int, phase int, along func(int, []int, int) []span) ([]api.Line, api.Errno) {
	if !may(pattern, phase) {
		return nil, api.ErrArg
	}
	if !fits(l.Pts) {
		return nil, api.ErrRange
	}
	if len(pattern) == 0 {
		return []api.Line{l}, api.OK
	}
	far, end := starts(l)
	all := along(end, pattern, phase)
	if len(all) > lines {
		return nil, api.ErrMany
	}
	var out []api.Line
	for _, s := range all {
		if p := piece(l, far, s.from, s.to); s.drawn && len(p.Pts) > 1 {
			out = append(out, p)
		}
	}
	return out, api.OK
}

// same answers if two lines are alike.
func same(a, b api.Line) bool { return a.Closed == b.Closed && slices.Equal(a.Pts, b.Pts) }

// mayIs holds what May and Total answer against what is wanted.
func mayIs(t *testing.T, pattern []int, phase int, want bool) {
	t.Helper()
	was := slices.Clone(pattern)
	if got := dash.May(pattern, phase); got != want {
		t.Errorf("May(%v, %d): %t, not %t", was, phase, got, want)
	}
	if !slices.Equal(pattern, was) {
		t.Errorf("May changed %v to %v", was, pattern)
	}
}

// totalIs holds what Total answers against what is wanted.
func totalIs(t *testing.T, pattern []int, want int) {
	t.Helper()
	was := slices.Clone(pattern)
	if got := dash.Total(pattern); got != want {
		t.Errorf("Total(%v): %d, not %d", was, got, want)
	}
	if !slices.Equal(pattern, was) {
		t.Errorf("Total changed %v to %v", was, pattern)
	}
}

// atIs holds what At answers against what is wanted.
func atIs(t *testing.T, l api.Line, n int, want api.Point, ok bool) {
	t.Helper()
	was := slices.Clone(l.Pts)
	if p, got := dash.At(l, n); p != want || got != ok {
		t.Errorf("At(%v, %d): %v, %t, not %v, %t", l, n, p, got, want, ok)
	}
	if !slices.Equal(l.Pts, was) {
		t.Errorf("At changed %v to %v", was, l.Pts)
	}
}

// atModel holds what At answers against the chapter's words.
func atModel(t *testing.T, l api.Line, n int) {
	t.Helper()
	p, ok := at(l, n)
	atIs(t, l, n, p, ok)
}

// cutIs holds what Cut answers against what is wanted, and what it was handed against what that was.
func cutIs(t *testing.T, l api.Line, pattern []int, phase int, want []api.Line, e api.Errno) {
	t.Helper()
	pts, was := slices.Clone(l.Pts), slices.Clone(pattern)
	if got, err := dash.Cut(l, pattern, phase); !slices.EqualFunc(got, want, same) || err != e {
		t.Errorf("Cut(%v, %v, %d): %v, %v, not %v, %v", l, pattern, phase, got, err, want, e)
	}
	if !slices.Equal(l.Pts, pts) || !slices.Equal(pattern, was) {
		t.Errorf("Cut changed %v, %v to %v, %v", pts, was, l.Pts, pattern)
	}
}

// cutModel holds what Cut answers against the chapter's words.
func cutModel(t *testing.T, l api.Line, pattern []int, phase int, along func(int, []int, int) []span) {
	t.Helper()
	want, e := cut(l, pattern, phase, along)
	cutIs(t, l, pattern, phase, want, e)
}

// dice answers the same numbers each time.
type dice uint64

func (d *dice) roll(n int) int {
	*d = *d*6364136223846793005 + 1442695040888963407
	return int(*d>>33) % n
}

// size answers any number that isn't further from 0 than n; often one at the edges, or small.
func (d *dice) size(n int) int {
	switch d.roll(8) {
	case 0:
		return n - d.roll(3)
	case 1:
		return d.roll(3) - n
	case 2:
		return max(-n, min(n, d.roll(21)-10))
	}
	return d.roll(2*n+1) - n
}

// line answers a line of as many points within n of 0; some are as the one ahead.
func (d *dice) line(many, n int) api.Line {
	out := make([]api.Point, many)
	for i := range out {
		out[i] = pt(d.size(n), d.size(n))
		if i > 0 && d.roll(6) == 0 {
			out[i] = out[i-1]
		}
	}
	return api.Line{Pts: out, Closed: d.roll(2) == 0}
}

// pattern answers as many lengths from 1 to n.
func (d *dice) pattern(many, n int) []int {
	out := make([]int, many)
	for i := range out {
		out[i] = 1 + d.roll(n)
	}
	return out
}
