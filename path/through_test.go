package path_test

import (
	"slices"
	"testing"

	"frisket/affine"
	"frisket/api"
	"frisket/path"
)

// clean answers a step with zero points behind those given.
func clean(op int, l ...api.Point) api.Step {
	s := api.Step{Op: op}
	copy(s.P[:], l)
	return s
}

// P12.2: by hand: each kind of step, each of its points.
func TestThroughHand(t *testing.T) {
	twice := []api.Map{{A: 512, D: 768, E: 5, F: -7}}
	l := []api.Step{move(1, 2), line(3, 4), quad(pt(5, 6), pt(7, 8)), cube(pt(9, 10), pt(11, 12), pt(13, 14)), shut()}
	goes(t, twice, l, []api.Step{
		clean(1, pt(7, -1)), clean(2, pt(11, 5)), clean(3, pt(15, 11), pt(19, 17)), clean(4, pt(23, 23), pt(27, 29), pt(31, 35)), clean(5),
	}, api.OK)
	for i := range l {
		want, e := through(twice, l[i:i+1])
		goes(t, twice, l[i:i+1], want, e)
	}
}

// P12.2: points that a step doesn't use are zero, and have no error.
func TestThroughOthers(t *testing.T) {
	p := pt(1, 2)
	for _, maps := range [][]api.Map{nil, {}, {affine.Same()}, {affine.Same(), affine.Same()}} {
		for _, op := range kinds {
			for _, behind := range []api.Point{junk, p, {}, pt(most, most)} {
				s := step(op, behind, behind, behind)
				for i := range uses(op) {
					s.P[i] = p
				}
				goes(t, maps, []api.Step{s}, []api.Step{clean(op, slices.Repeat([]api.Point{p}, uses(op))...)}, api.OK)
			}
		}
	}
}

// P12.2: the last map goes first.
func TestThroughMaps(t *testing.T) {
	turn, shift := api.Map{B: 256, C: -256}, api.Map{A: 256, D: 256, E: 10, F: 1}
	l := []api.Step{move(3, 4), line(0, 0)}
	goes(t, []api.Map{turn, shift}, l, []api.Step{clean(1, pt(-5, 13)), clean(2, pt(-1, 10))}, api.OK)
	goes(t, []api.Map{shift, turn}, l, []api.Step{clean(1, pt(6, 4)), clean(2, pt(10, 1))}, api.OK)
}

// P12.2: by no maps points stay as they are, and no map is asked by no point.
func TestThroughNone(t *testing.T) {
	goes(t, nil, nil, nil, api.OK)
	goes(t, []api.Map{{A: 1 << 20}}, nil, nil, api.OK)
	goes(t, []api.Map{{A: 1 << 20}}, []api.Step{shut(), shut()}, []api.Step{clean(5), clean(5)}, api.OK)
	for _, n := range far {
		goes(t, nil, []api.Step{step(1, pt(n, 1)), step(4, pt(0, n), pt(n, n), pt(1, n))}, []api.Step{clean(1, pt(n, 1)), clean(4, pt(0, n), pt(n, n), pt(1, n))}, api.OK)
	}
}

// P12.2: steps go as they stand, be they no path at all, and more than a path may have.
func TestThroughAsTheyStand(t *testing.T) {
	up := []api.Map{{A: 256, D: 256, F: 1}}
	for _, op := range kinds {
		for _, next := range kinds {
			l := []api.Step{anyStep(op, pt(1, 1)), anyStep(next, pt(2, 2)), anyStep(op, pt(3, 3))}
			want, e := through(up, l)
			if e != api.OK {
				t.Fatal(e)
			}
			goes(t, up, l, want, api.OK)
		}
	}
	l := slices.Repeat([]api.Step{line(1, 1)}, 10*steps)
	goes(t, up, l, slices.Repeat([]api.Step{clean(2, pt(1, 2))}, 10*steps), api.OK)
	l = append(l, step(0))
	goes(t, up, l, nil, api.ErrArg)
}

// P12.2: a step that is none, in each place; points' errors; of all, the first one.
func TestThroughWrong(t *testing.T) {
	same, bad, grow := []api.Map{affine.Same()}, []api.Map{{A: 1<<15 + 1}}, []api.Map{{A: 512, D: 512}}
	right := []api.Step{move(1, 1), cube(pt(2, 2), pt(3, 3), pt(4, 4)), shut()}
	for _, op := range none {
		for at := range len(right) + 1 {
			l := slices.Insert(slices.Clone(right), at, step(op))
			goes(t, same, l, nil, api.ErrArg)
			goes(t, nil, l, nil, api.ErrArg)
		}
	}
	goes(t, bad, right, nil, api.ErrArg)
	goes(t, []api.Map{bad[0], same[0]}, right, nil, api.ErrArg)
	goes(t, []api.Map{bad[0], same[0]}, []api.Step{step(1, junk)}, nil, api.ErrRange) // the inner map comes first
	goes(t, []api.Map{same[0], bad[0]}, []api.Step{step(1, junk)}, nil, api.ErrArg)
	for _, op := range kinds {
		for at := range uses(op) {
			for _, n := range far {
				for _, p := range []api.Point{pt(n, 0), pt(0, n)} {
					s := anyStep(op, pt(1, 1))
					s.P[at] = p
					goes(t, same, []api.Step{move(0, 0), s, line(1, 1)}, nil, api.ErrRange)
					goes(t, same, []api.Step{s, step(0)}, nil, api.ErrRange)
					goes(t, same, []api.Step{step(0), s}, nil, api.ErrArg)
				}
			}
			s := anyStep(op, pt(1, 1)) // what it comes to, on both sides of the limit
			s.P[at] = pt(most/2, 0)
			want, _ := through(grow, []api.Step{s})
			goes(t, grow, []api.Step{s}, want, api.OK)
			s.P[at] = pt(most/2+1, 0)
			goes(t, grow, []api.Step{s}, nil, api.ErrRange)
		}
	}
}

// P12.2: any maps and steps, against the chapter's words.
func TestThroughDice(t *testing.T) {
	d := dice(71)
	right := 0
	for range 20000 {
		maps := make([]api.Map, d.roll(4))
		for i := range maps {
			maps[i] = api.Map{A: d.roll(900) - 450, B: d.roll(900) - 450, C: d.roll(900) - 450, D: d.roll(900) - 450, E: d.roll(2000) - 1000, F: d.roll(2000) - 1000}
		}
		l := d.path(d.roll(6), []int{5, 1000, most / 2, most}[d.roll(4)])
		if d.roll(9) == 0 && len(l) > 0 {
			l[d.roll(len(l))].Op = d.roll(9) - 2
		}
		want, e := through(maps, l)
		if e == api.OK {
			right++
		}
		goes(t, maps, l, want, e)
	}
	if right < 5000 || right > 19000 {
		t.Errorf("%d went through", right)
	}
}

// P12.2, R3: what went through is new memory; a path that goes by no map changes no line.
func TestThroughNew(t *testing.T) {
	l := []api.Step{clean(1, pt(1, 1)), clean(4, pt(2, 200), pt(3, 3), pt(4, 4)), clean(5)}
	was := slices.Clone(l)
	for _, maps := range [][]api.Map{nil, {affine.Same()}} {
		got, e := path.Through(maps, l)
		if e != api.OK || !slices.Equal(got, l) {
			t.Error(got, e)
		}
		a, _ := path.Trace(l)
		b, _ := path.Trace(got)
		if !sameLines(a, b) {
			t.Error(a, b)
		}
		for i := range got {
			got[i] = step(9)
		}
		if !slices.Equal(l, was) {
			t.Errorf("Through shares its steps: %v", l)
		}
	}
}
