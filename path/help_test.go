package path_test

import (
	"math"
	"slices"
	"testing"

	"frisket/affine"
	"frisket/api"
	"frisket/bez"
	"frisket/path"
)

// most is a coordinate's greatest size, steps the greatest number of these, told by themselves so that a limit that is another one shows.
const (
	most  = 8388607
	steps = 200
)

// far are numbers beyond what a part of a point may be.
var far = []int{math.MinInt, math.MinInt + 1, -1 << 32, -1 << 31, -1 << 24, -most - 2, -most - 1, most + 1, most + 2, 1 << 24, 1 << 31, 1 << 32, 1<<32 + 1, math.MaxInt - 1, math.MaxInt}

// none are kinds that no step is of.
var none = []int{math.MinInt, -1 << 32, -5, -4, -3, -2, -1, 0, 6, 7, 8, 100, 257, 258, 1<<32 + 1, 1<<32 + 5, math.MaxInt}

// kinds are those that steps are of.
var kinds = []int{1, 2, 3, 4, 5}

// junk is what no point may be: it stands where nothing is to be read.
var junk = api.Point{X: math.MinInt, Y: math.MaxInt}

// pt answers a point.
func pt(x, y int) api.Point { return api.Point{X: x, Y: y} }

// step answers a step of some points; junk stands behind them.
func step(op int, l ...api.Point) api.Step {
	s := api.Step{Op: op, P: [3]api.Point{junk, junk, junk}}
	copy(s.P[:], l)
	return s
}

// These answer steps of each kind.
func move(x, y int) api.Step          { return step(1, pt(x, y)) }
func line(x, y int) api.Step          { return step(2, pt(x, y)) }
func quad(a, b api.Point) api.Step    { return step(3, a, b) }
func cube(a, b, c api.Point) api.Step { return step(4, a, b, c) }
func shut() api.Step                  { return step(5) }

// anyStep answers a step of a kind, all its points the same one.
func anyStep(op int, p api.Point) api.Step {
	return step(op, slices.Repeat([]api.Point{p}, max(0, uses(op)))...)
}

// uses answers what Uses is to answer.
func uses(op int) int {
	i := slices.Index(kinds, op)
	if i < 0 {
		return -1
	}
	return []int{1, 1, 2, 3, 0}[i]
}

// fault answers the error that Trace is to answer.
func fault(l []api.Step) api.Errno {
	if len(l) > steps {
		return api.ErrMany
	}
	for i, s := range l {
		if !slices.Contains(kinds, s.Op) {
			return api.ErrArg
		}
		if s.Op != 1 && (i == 0 || l[i-1].Op == 5) {
			return api.ErrOrder
		}
		for _, p := range s.P[:uses(s.Op)] {
			if p.X < -most || p.X > most || p.Y < -most || p.Y > most {
				return api.ErrRange
			}
		}
	}
	return api.OK
}

// parts answers a path without faults in parts, each with a StepMove ahead.
func parts(l []api.Step) [][]api.Step {
	var out [][]api.Step
	for len(l) > 0 {
		n := 1
		for n < len(l) && l[n].Op != 1 {
			n++
		}
		out = append(out, l[:n])
		l = l[n:]
	}
	return out
}

// trace answers what Trace is to answer: all points of each part first, then what of them is left.
func trace(l []api.Step) ([]api.Line, api.Errno) {
	if e := fault(l); e != api.OK {
		return nil, e
	}
	var out []api.Line
	for _, part := range parts(l) {
		row := []api.Point{part[0].P[0]}
		for _, s := range part[1:] {
			from := row[len(row)-1]
			var more []api.Point
			switch s.Op {
			case 2:
				more = []api.Point{s.P[0]}
			case 3:
				more, _ = bez.Quad(from, s.P[0], s.P[1])
			case 4:
				more, _ = bez.Cube(from, s.P[0], s.P[1], s.P[2])
			}
			row = append(row, more...)
		}
		row = slices.Compact(row)
		closed := part[len(part)-1].Op == 5
		if closed && len(row) >= 2 && row[len(row)-1] == row[0] {
			row = row[:len(row)-1]
		}
		if len(row) >= 2 {
			out = append(out, api.Line{Pts: row, Closed: closed})
		}
	}
	return out, api.OK
}

// count answers what Count is to answer: from behind, each curve's beginning sought ahead of it.
func count(l []api.Step) (int, api.Errno) {
	if e := fault(l); e != api.OK {
		return 0, e
	}
	n := 0
	for i, s := range slices.Backward(l) {
		switch s.Op {
		case 2, 5:
			n++
		case 3:
			n += bez.Pieces(l[i-1].P[uses(l[i-1].Op)-1], s.P[0], s.P[1])
		case 4:
			n += bez.Pieces(l[i-1].P[uses(l[i-1].Op)-1], s.P[0], s.P[1], s.P[2])
		}
	}
	return n, api.OK
}

// through answers what Through is to answer.
func through(maps []api.Map, l []api.Step) ([]api.Step, api.Errno) {
	var out []api.Step
	for _, s := range l {
		if !slices.Contains(kinds, s.Op) {
			return nil, api.ErrArg
		}
		to := api.Step{Op: s.Op}
		for i := range uses(s.Op) {
			p, e := affine.Through(maps, s.P[i])
			if e != api.OK {
				return nil, e
			}
			to.P[i] = p
		}
		out = append(out, to)
	}
	return out, api.OK
}

// segs answers what Segs is to answer.
func segs(l []api.Line) []api.Seg {
	var out []api.Seg
	for _, row := range l {
		if len(row.Pts) == 0 {
			continue
		}
		around := append(slices.Clone(row.Pts), row.Pts[0])
		for len(around) > 1 {
			if around[0] != around[1] {
				out = append(out, api.Seg{A: around[0], B: around[1]})
			}
			around = around[1:]
		}
	}
	return out
}

// sameLines tells whether lines are the same.
func sameLines(a, b []api.Line) bool {
	return slices.EqualFunc(a, b, func(a, b api.Line) bool { return a.Closed == b.Closed && slices.Equal(a.Pts, b.Pts) })
}

// traces holds what Trace answers against what is wanted, and what it was handed against what that was.
func traces(t *testing.T, l []api.Step, want []api.Line, wantE api.Errno) {
	t.Helper()
	was := slices.Clone(l)
	got, e := path.Trace(l)
	if !sameLines(got, want) || e != wantE {
		t.Errorf("Trace(%v): %v, %v, not %v, %v", was, got, e, want, wantE)
	}
	if !slices.Equal(l, was) {
		t.Errorf("Trace changed %v to %v", was, l)
	}
}

// counts holds what Count answers against what is wanted.
func counts(t *testing.T, l []api.Step, want int, wantE api.Errno) {
	t.Helper()
	was := slices.Clone(l)
	if got, e := path.Count(l); got != want || e != wantE {
		t.Errorf("Count(%v): %v, %v, not %v, %v", l, got, e, want, wantE)
	}
	if !slices.Equal(l, was) {
		t.Errorf("Count changed %v to %v", was, l)
	}
}

// both holds what Trace and Count answer against the chapter's words.
func both(t *testing.T, l []api.Step) {
	t.Helper()
	lines, e := trace(l)
	traces(t, l, lines, e)
	n, e := count(l)
	counts(t, l, n, e)
}

// refused holds Trace and Count against an error.
func refused(t *testing.T, l []api.Step, e api.Errno) {
	t.Helper()
	traces(t, l, nil, e)
	counts(t, l, 0, e)
}

// goes holds what Through answers against what is wanted.
func goes(t *testing.T, maps []api.Map, l, want []api.Step, wantE api.Errno) {
	t.Helper()
	was, wasMaps := slices.Clone(l), slices.Clone(maps)
	if got, e := path.Through(maps, l); !slices.Equal(got, want) || e != wantE {
		t.Errorf("Through(%v, %v): %v, %v, not %v, %v", maps, l, got, e, want, wantE)
	}
	if !slices.Equal(l, was) || !slices.Equal(maps, wasMaps) {
		t.Errorf("Through changed %v, %v to %v, %v", wasMaps, was, maps, l)
	}
}

// rounds holds what Segs answers against what is wanted.
func rounds(t *testing.T, l []api.Line, want []api.Seg) {
	t.Helper()
	if got := path.Segs(l); !slices.Equal(got, want) {
		t.Errorf("Segs(%v): %v, not %v", l, got, want)
	}
}

// dice answers the same numbers each time.
type dice uint64

func (d *dice) roll(n int) int {
	*d = *d*6364136223846793005 + 1442695040888963407
	return int(*d>>33) % n
}

// point answers a point within n of 0.
func (d *dice) point(n int) api.Point {
	return pt(d.roll(2*n+1)-n, d.roll(2*n+1)-n)
}

// path answers a path of so many steps, mostly in a right order, its points within n of 0.
func (d *dice) path(many, n int) []api.Step {
	out := make([]api.Step, many)
	for i := range out {
		op := kinds[d.roll(5)]
		if i == 0 || out[i-1].Op == 5 {
			op = 1
		}
		out[i] = step(op, d.point(n), d.point(n), d.point(n))
	}
	return out
}
