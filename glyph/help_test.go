package glyph_test

import (
	"math"
	"math/big"
	"slices"
	"testing"

	"frisket/api"
	"frisket/glyph"
	"frisket/path"
)

// The limits, told by themselves so that one that is another shows: a coordinate's size, a path's steps, a size, an Em.
const (
	most   = 8388607
	steps  = 200
	widest = 65536
	em     = 1024
)

// far are numbers beyond what a part of a point may be.
var far = []int{math.MinInt, math.MinInt + 1, -1 << 32, -1 << 31, -1 << 24, -most - 2, -most - 1, most + 1, most + 2, 1 << 24, 1 << 31, 1 << 32, 1<<32 + 1, math.MaxInt - 1, math.MaxInt}

// misfits are sizes that no letter may have.
var misfits = []int{math.MinInt, -1 << 32, -widest, -2, -1, 0, widest + 1, widest + 2, 1 << 24, 1 << 32, 1<<32 + 1, math.MaxInt}

// kinds are those that steps are of.
var kinds = []int{1, 2, 3, 4, 5}

// junk is what no point may be: it stands where nothing is to be read.
var junk = api.Point{X: math.MinInt, Y: math.MaxInt}

// o is where most texts are set.
var o = api.Point{}

// pt answers a point.
func pt(x, y int) api.Point { return api.Point{X: x, Y: y} }

// step answers a step of some points, junk behind them; put, one with zeros behind them.
func step(op int, l ...api.Point) api.Step {
	s := api.Step{Op: op, P: [3]api.Point{junk, junk, junk}}
	copy(s.P[:], l)
	return s
}

func put(op int, l ...api.Point) api.Step {
	s := api.Step{Op: op}
	copy(s.P[:], l)
	return s
}

// move and shut answer a step of their kinds.
func move(x, y int) api.Step { return step(1, pt(x, y)) }
func shut() api.Step         { return step(5) }

// letter answers a glyph; dot, one of a StepMove alone.
func letter(code byte, advance int, l ...api.Step) api.Glyph {
	return api.Glyph{Code: int(code), Advance: advance, Steps: l}
}

func dot(code byte, advance, x, y int) api.Glyph {
	return letter(code, advance, move(x, y))
}

// uses answers how many points a step has.
func uses(op int) int {
	return []int{1, 1, 2, 3, 0}[slices.Index(kinds, op)]
}

// may answers what May is to answer.
func may(g api.Glyph) bool {
	_, e := path.Trace(g.Steps)
	return 33 <= g.Code && g.Code <= 126 && 0 <= g.Advance && g.Advance <= most && e == api.OK
}

// find answers what Find is to answer.
func find(font []api.Glyph, code int) (api.Glyph, bool) {
	if i := slices.IndexFunc(font, func(g api.Glyph) bool { return g.Code == code }); i >= 0 {
		return font[i], true
	}
	return api.Glyph{}, false
}

// near answers n times size by Em, to the nearest whole number, of two the greater one: the floor of it and a half.
func near(n, size int) int {
	twice := new(big.Int).Mul(big.NewInt(int64(n)), big.NewInt(2*int64(size)))
	twice.Add(twice, big.NewInt(em))
	return int(twice.Div(twice, big.NewInt(2*em)).Int64())
}

// beyond tells whether any number is beyond MaxCoord.
func beyond(l ...int) bool {
	return slices.ContainsFunc(l, func(n int) bool { return n < -most || n > most })
}

// sized tells what size, and what place, may be.
func sized(size int, at api.Point) bool {
	return 1 <= size && size <= widest && !beyond(at.X, at.Y)
}

// wrong answers what is wrong with a byte's glyph.
func wrong(font []api.Glyph, code byte) api.Errno {
	g, ok := find(font, int(code))
	switch {
	case !ok:
		return api.ErrNone
	case !may(g):
		return api.ErrArg
	}
	return api.OK
}

// set answers what Set is to answer, each letter from its pen on, which is reckoned ahead of it.
func set(font []api.Glyph, text string, size int, at api.Point) ([]api.Step, api.Errno) {
	if !sized(size, at) {
		return nil, api.ErrArg
	}
	var out []api.Step
	pen := 0
	for _, b := range []byte(text) {
		if e := wrong(font, b); e != api.OK {
			return nil, e
		}
		g, _ := find(font, int(b))
		if len(out)+len(g.Steps) > steps {
			return nil, api.ErrMany
		}
		for _, s := range g.Steps {
			to := api.Step{Op: s.Op}
			for i, p := range s.P[:uses(s.Op)] {
				to.P[i] = pt(at.X+near(pen+p.X, size), at.Y+near(p.Y, size))
				if beyond(to.P[i].X, to.P[i].Y, pen+p.X) {
					return nil, api.ErrRange
				}
			}
			out = append(out, to)
		}
		pen += g.Advance
		if beyond(pen) {
			return nil, api.ErrRange
		}
	}
	return out, api.OK
}

// width answers what Width is to answer: of each beginning of the text, the sum of its Advances.
func width(font []api.Glyph, text string, size int) (int, api.Errno) {
	if !sized(size, o) {
		return 0, api.ErrArg
	}
	sums := []int{0}
	for i, b := range []byte(text) {
		if e := wrong(font, b); e != api.OK {
			return 0, e
		}
		g, _ := find(font, int(b))
		sums = append(sums, sums[i]+g.Advance)
		if beyond(sums...) {
			return 0, api.ErrRange
		}
	}
	return near(sums[len(text)], size), api.OK
}

// copied answers a font that shares nothing with another one.
func copied(font []api.Glyph) []api.Glyph {
	out := slices.Clone(font)
	for i, g := range out {
		out[i].Steps = slices.Clone(g.Steps)
	}
	return out
}

// sameGlyph tells whether glyphs are the same.
func sameGlyph(a, b api.Glyph) bool {
	return a.Code == b.Code && a.Advance == b.Advance && slices.Equal(a.Steps, b.Steps)
}

// left tells whether a font was left as it was.
func left(t *testing.T, font, was []api.Glyph) {
	t.Helper()
	if !slices.EqualFunc(font, was, sameGlyph) {
		t.Errorf("%v was changed to %v", was, font)
	}
}

// mays holds what May answers against what is wanted.
func mays(t *testing.T, g api.Glyph, want bool) {
	t.Helper()
	was := copied([]api.Glyph{g})
	if got := glyph.May(g); got != want {
		t.Errorf("May(%v): %v", g, got)
	}
	left(t, []api.Glyph{g}, was)
}

// finds holds what Find answers against what is wanted.
func finds(t *testing.T, font []api.Glyph, code int, want api.Glyph, ok bool) {
	t.Helper()
	was := copied(font)
	if got, k := glyph.Find(font, code); !sameGlyph(got, want) || k != ok {
		t.Errorf("Find(%v, %d): %v, %v, not %v, %v", font, code, got, k, want, ok)
	}
	left(t, font, was)
}

// sets holds what Set answers against what is wanted.
func sets(t *testing.T, font []api.Glyph, text string, size int, at api.Point, want []api.Step, wantE api.Errno) {
	t.Helper()
	was := copied(font)
	if got, e := glyph.Set(font, text, size, at); !slices.Equal(got, want) || e != wantE {
		t.Errorf("Set(%v, %q, %d, %v): %v, %v, not %v, %v", font, text, size, at, got, e, want, wantE)
	}
	left(t, font, was)
}

// spans holds what Width answers against what is wanted.
func spans(t *testing.T, font []api.Glyph, text string, size int, want int, wantE api.Errno) {
	t.Helper()
	was := copied(font)
	if got, e := glyph.Width(font, text, size); got != want || e != wantE {
		t.Errorf("Width(%v, %q, %d): %v, %v, not %v, %v", font, text, size, got, e, want, wantE)
	}
	left(t, font, was)
}

// both holds what Set and Width answer against the chapter's words.
func both(t *testing.T, font []api.Glyph, text string, size int, at api.Point) {
	t.Helper()
	l, e := set(font, text, size, at)
	sets(t, font, text, size, at, l, e)
	n, e := width(font, text, size)
	spans(t, font, text, size, n, e)
}

// dice answers the same numbers each time.
type dice uint64

func (d *dice) roll(n int) int {
	*d = *d*6364136223846793005 + 1442695040888963407
	return int(*d>>33) % n
}

// point answers a point within n of 0.
func (d *dice) point(n int) api.Point {
	return pt(d.roll(2*n+1)-n, d.roll(2*n+1)-n)
}

// path answers a path of so many steps, its points within n of 0.
func (d *dice) path(many, n int) []api.Step {
	out := make([]api.Step, many)
	for i := range out {
		op := kinds[d.roll(5)]
		if i == 0 || out[i-1].Op == 5 {
			op = 1
		}
		out[i] = step(op, slices.Repeat([]api.Point{o}, uses(op))...)
		for k := range uses(op) {
			out[i].P[k] = d.point(n)
		}
	}
	return out
}
