package path_test

import (
	"slices"
	"testing"

	"frisket/api"
	"frisket/path"
)

// row answers one line alone.
func row(closed bool, l ...api.Point) []api.Line {
	return []api.Line{{Pts: l, Closed: closed}}
}

// P12.1: the chapter's example, and others by hand.
func TestTraceHand(t *testing.T) {
	a, b, c := pt(0, 0), pt(5, 0), pt(5, 5)
	ma, la, lb, lc := move(0, 0), line(0, 0), line(5, 0), line(5, 5)
	for _, x := range []struct {
		l    []api.Step
		want []api.Line
	}{
		{[]api.Step{ma, lb, lc, shut()}, row(true, a, b, c)},
		{[]api.Step{ma, lb, lc}, row(false, a, b, c)},
		{nil, nil},
		{[]api.Step{}, nil},
		{[]api.Step{ma}, nil},
		{[]api.Step{ma, shut()}, nil},
		{[]api.Step{ma, ma, ma}, nil},
		{[]api.Step{ma, la}, nil},
		{[]api.Step{ma, la, la, shut()}, nil},
		{[]api.Step{ma, lb}, row(false, a, b)},
		{[]api.Step{ma, lb, shut()}, row(true, a, b)},
		{[]api.Step{ma, lb, la}, row(false, a, b, a)}, // an open line's last one stays, though it is the first one
		{[]api.Step{ma, lb, la, shut()}, row(true, a, b)},
		{[]api.Step{ma, lb, la, lb, shut()}, row(true, a, b, a, b)},
		{[]api.Step{ma, lb, lc, la, shut()}, row(true, a, b, c)},
		{[]api.Step{ma, lb, lc, la, la, la, shut()}, row(true, a, b, c)},
		{[]api.Step{ma, lb, la, lb, la, shut()}, row(true, a, b, a, b)}, // one alone goes
		{[]api.Step{ma, la, la, lb, lb, lb, lc, lb, lb}, row(false, a, b, c, b)},
		{[]api.Step{ma, la, lb, lb, lc, lc, shut()}, row(true, a, b, c)},
	} {
		traces(t, x.l, x.want, api.OK)
	}
}

// P12.1: lines one behind the other: each StepMove begins one, closed or not.
func TestTraceLines(t *testing.T) {
	a, b, c, d := pt(1, 2), pt(3, 4), pt(5, 6), pt(7, 8)
	ma, mc, lb, ld := move(1, 2), move(5, 6), line(3, 4), line(7, 8)
	open, closed := api.Line{Pts: []api.Point{a, b}}, api.Line{Pts: []api.Point{a, b}, Closed: true}
	open2, closed2 := api.Line{Pts: []api.Point{c, d}}, api.Line{Pts: []api.Point{c, d}, Closed: true}
	for _, x := range []struct {
		l    []api.Step
		want []api.Line
	}{
		{[]api.Step{ma, lb, mc, ld}, []api.Line{open, open2}},
		{[]api.Step{ma, lb, shut(), mc, ld}, []api.Line{closed, open2}},
		{[]api.Step{ma, lb, mc, ld, shut()}, []api.Line{open, closed2}},
		{[]api.Step{ma, lb, shut(), mc, ld, shut()}, []api.Line{closed, closed2}},
		{[]api.Step{mc, ma, lb, mc, mc, ld, ma}, []api.Line{open, open2}},                 // lines of one point between
		{[]api.Step{mc, shut(), ma, lb, mc, shut(), mc, ld, ma}, []api.Line{open, open2}}, // closed ones, too
		{[]api.Step{ma, lb, ma, lb, shut(), ma, lb}, []api.Line{open, closed, open}},      // one and the same
		{[]api.Step{ma, lb, move(3, 4), ld}, []api.Line{open, {Pts: []api.Point{b, d}}}},  // a new line, though it begins where the other one ended
		{[]api.Step{ma, lb, shut(), move(1, 2), ld}, []api.Line{closed, {Pts: []api.Point{a, d}}}},
		{[]api.Step{ma, lb, mc, line(5, 6), shut(), ma, lb, shut()}, []api.Line{open, closed}},
	} {
		traces(t, x.l, x.want, api.OK)
	}
}

// P12.1: curves by hand, from where one is.
func TestTraceCurves(t *testing.T) {
	bow := []api.Step{move(0, 0), quad(pt(64, 0), pt(64, 64))}
	traces(t, bow, row(false, pt(0, 0), pt(48, 16), pt(64, 64)), api.OK)
	arch := []api.Step{move(0, 0), cube(pt(0, 256), pt(256, 256), pt(256, 0)), shut()}
	traces(t, arch, row(true, pt(0, 0), pt(40, 144), pt(128, 192), pt(216, 144), pt(256, 0)), api.OK)
	for _, ahead := range [][]api.Step{
		{move(0, 0)}, {move(9, 9), line(0, 0)}, {move(9, 9), line(0, 0), line(0, 0)}, {move(9, 9), quad(pt(5, 5), pt(0, 0))}, {move(9, 9), cube(pt(6, 6), pt(3, 3), pt(0, 0))},
		{move(50, 50), line(60, 60), shut(), move(0, 0)}, {move(50, 50), move(0, 0)}, {move(0, 0), quad(pt(0, 0), pt(0, 0))}, {move(0, 0), line(9, 9), line(0, 0)},
	} {
		for _, l := range [][]api.Step{bow, arch} {
			l = append(slices.Clone(ahead), l[1:]...)
			got, e := path.Trace(l)
			want := []api.Point{pt(0, 0), pt(48, 16), pt(64, 64)}
			if l[len(l)-1].Op == 5 {
				want = []api.Point{pt(0, 0), pt(40, 144), pt(128, 192), pt(216, 144), pt(256, 0)}
			}
			if e != api.OK || len(got) == 0 {
				t.Fatal(l, got, e)
			}
			if pts := got[len(got)-1].Pts; len(pts) < len(want) || !slices.Equal(pts[len(pts)-len(want):], want) {
				t.Errorf("Trace(%v): %v ends otherwise than %v", l, pts, want)
			}
			both(t, l)
		}
	}
}

// P12.1: curves' points that are the same, and curves that come back.
func TestTraceSame(t *testing.T) {
	o := pt(0, 0)
	traces(t, []api.Step{move(0, 0), quad(o, o), cube(o, o, o), shut()}, nil, api.OK)
	traces(t, []api.Step{move(0, 0), quad(o, o), line(5, 0), cube(pt(5, 0), pt(5, 0), pt(5, 0))}, row(false, o, pt(5, 0)), api.OK)
	traces(t, []api.Step{move(0, 0), quad(pt(0, 32), o), shut()}, row(true, o, pt(0, 16)), api.OK) // 64: two pieces
	traces(t, []api.Step{move(0, 0), quad(pt(0, 32), o)}, row(false, o, pt(0, 16), o), api.OK)
	traces(t, []api.Step{move(0, 0), quad(pt(0, 4), o)}, nil, api.OK)                                        // of one piece
	traces(t, []api.Step{move(0, 0), quad(pt(0, 40), pt(1, 0))}, row(false, o, pt(0, 18), pt(1, 0)), api.OK) // 80: three pieces, two of which end in the same point
	both(t, []api.Step{move(0, 0), cube(pt(90, 0), pt(-90, 0), o), cube(pt(-90, 0), pt(90, 0), o)})
	both(t, []api.Step{move(0, 0), quad(pt(100, 0), pt(4, 0)), quad(pt(100, 0), pt(0, 0)), shut()})
}

// P12.1: what is behind each kind of step, and first of all.
func TestTraceOrder(t *testing.T) {
	p, q := pt(1, 2), pt(3, 4)
	for _, op := range kinds {
		s := anyStep(op, p)
		if op != 1 {
			refused(t, []api.Step{s}, api.ErrOrder)
			refused(t, []api.Step{s, move(1, 1), line(2, 2)}, api.ErrOrder)
		}
		for _, ahead := range kinds[:4] {
			l := []api.Step{move(0, 0), anyStep(ahead, q), s, move(3, 3)}
			if fault(l) != api.OK {
				t.Fatal(l)
			}
			both(t, l)
		}
		l := []api.Step{move(0, 0), line(1, 1), shut(), s}
		if op == 1 {
			traces(t, l, row(true, pt(0, 0), pt(1, 1)), api.OK)
			continue
		}
		refused(t, l, api.ErrOrder)
		refused(t, append(l, move(0, 0)), api.ErrOrder)
		refused(t, []api.Step{move(0, 0), shut(), s}, api.ErrOrder)
	}
}

// P12.1: a step that is none, in each place, whatever the others are.
func TestTraceNone(t *testing.T) {
	for _, op := range none {
		bad := step(op, pt(1, 1), pt(2, 2), pt(3, 3))
		refused(t, []api.Step{bad}, api.ErrArg)
		refused(t, []api.Step{step(op)}, api.ErrArg) // ahead of ErrOrder and of points that may not be
		l := []api.Step{move(0, 0), line(5, 5), quad(pt(64, 0), pt(64, 64)), shut(), move(3, 3), cube(pt(4, 4), pt(5, 5), pt(60, 6))}
		for at := range len(l) + 1 {
			refused(t, slices.Insert(slices.Clone(l), at, bad), api.ErrArg)
			refused(t, slices.Insert(slices.Clone(l), at, step(op)), api.ErrArg)
		}
	}
}

// P12.1: a point that may not be, in each place that a step uses.
func TestTraceRange(t *testing.T) {
	for _, n := range far {
		for _, p := range []api.Point{pt(n, 0), pt(0, n), pt(n, n), pt(n, -5), pt(most, n)} {
			for _, op := range kinds {
				for at := range uses(op) {
					s := anyStep(op, pt(7, 8))
					s.P[at] = p
					l := []api.Step{move(1, 1), line(2, 2), s, move(3, 3), shut()}
					refused(t, l, api.ErrRange)
					refused(t, l[:3], api.ErrRange)
					refused(t, append([]api.Step{move(1, 1), s}, l...), api.ErrRange)
				}
			}
			refused(t, []api.Step{step(1, p)}, api.ErrRange)
			refused(t, []api.Step{step(1, p), move(0, 0), line(1, 1)}, api.ErrRange)
		}
	}
}

// P12.1: points at the limits may be, whatever stands behind those that a step uses.
func TestTraceLimits(t *testing.T) {
	for _, x := range []int{-most, most} {
		for _, y := range []int{-most, most, 0} {
			p := pt(x, y)
			for _, op := range kinds {
				l := []api.Step{move(1, 1), line(-1, -1), anyStep(op, p)}
				if fault(l) != api.OK {
					t.Fatal(l)
				}
				both(t, l)
				both(t, append(l, move(0, 0), line(x, y), shut()))
			}
			traces(t, []api.Step{move(0, 0), step(2, p, junk, junk), shut()}, row(true, pt(0, 0), p), api.OK)
			traces(t, []api.Step{move(0, 0), line(1, 0), step(5, p, junk, p)}, row(true, pt(0, 0), pt(1, 0)), api.OK)
		}
	}
}

// P12.1: of one step's errors, and of several steps', the first one.
func TestTraceFirst(t *testing.T) {
	out := pt(most+1, 0)
	arg, order, reach := step(9), line(1, 1), step(1, out)
	refused(t, []api.Step{step(2, out)}, api.ErrOrder)
	refused(t, []api.Step{move(0, 0), shut(), step(3, out, out)}, api.ErrOrder)
	refused(t, []api.Step{move(0, 0), shut(), step(4, pt(0, 0), pt(0, 0), out)}, api.ErrOrder)
	refused(t, []api.Step{move(0, 0), shut(), step(6, out, out)}, api.ErrArg)
	for _, l := range [][]api.Step{{arg, reach, order}, {arg, order, reach}} {
		refused(t, l, api.ErrArg)
	}
	for _, l := range [][]api.Step{{order, arg, reach}, {order, reach, arg}, {move(0, 0), shut(), order, arg}, {move(0, 0), shut(), shut(), reach}} {
		refused(t, l, api.ErrOrder)
	}
	for _, l := range [][]api.Step{{reach, arg, order}, {reach, shut(), order}, {move(0, 0), reach, arg}, {reach, shut(), shut()}} {
		refused(t, l, api.ErrRange)
	}
}

// P12.1: as many steps as there may be, and one more, whatever they are.
func TestTraceMany(t *testing.T) {
	for _, s := range []api.Step{move(1, 2), line(3, 4), quad(pt(90, 0), pt(90, 90)), cube(pt(0, 500), pt(500, 500), pt(500, 0))} {
		l := append([]api.Step{move(0, 0)}, slices.Repeat([]api.Step{s}, steps-1)...)
		if fault(l) != api.OK {
			t.Fatal(fault(l))
		}
		both(t, l)
		both(t, l[:steps-1])
		refused(t, append(slices.Clone(l), s), api.ErrMany)
		l[steps-1] = step(0)
		refused(t, l, api.ErrArg)
		refused(t, append(l, s), api.ErrMany)
	}
	for _, bad := range []api.Step{step(0), shut(), step(1, junk), move(0, 0)} {
		refused(t, slices.Repeat([]api.Step{bad}, steps+1), api.ErrMany)
		refused(t, slices.Repeat([]api.Step{bad}, 100*steps), api.ErrMany)
		both(t, slices.Repeat([]api.Step{bad}, steps))
	}
	var l []api.Step
	for i := range steps / 2 {
		l = append(l, move(i, i), line(i+1, i))
	}
	if got, e := path.Trace(l); e != api.OK || len(got) != steps/2 {
		t.Error(len(got), e)
	}
}

// P12.1, P12.2: all paths of up to six steps of a few kinds, against the chapter's words.
func TestTraceSmall(t *testing.T) {
	all := []api.Step{move(0, 0), move(1, 0), line(0, 0), line(1, 0), quad(pt(0, 32), pt(0, 0)), shut()}
	bad := append(slices.Clone(all), cube(pt(30, 0), pt(0, 30), pt(1, 0)), step(0), step(1, pt(most+1, 0)), step(3, pt(0, 0), pt(0, most+1)))
	rowsOf(all, 6, func(l []api.Step) { both(t, l) })
	rowsOf(bad, 4, func(l []api.Step) { both(t, l) })
}

// rowsOf hands on all rows of up to many of some steps.
func rowsOf(all []api.Step, many int, do func([]api.Step)) {
	var l []api.Step
	var next func()
	next = func() {
		do(l)
		if len(l) == many {
			return
		}
		for _, s := range all {
			l = append(l, s)
			next()
			l = l[:len(l)-1]
		}
	}
	next()
}

// P12.1, P12.2: any paths, against the chapter's words.
func TestTraceDice(t *testing.T) {
	d := dice(51)
	for range 20000 {
		l := d.path(d.roll(12), []int{1, 2, 60, 1000, most}[d.roll(5)])
		if d.roll(5) == 0 && len(l) > 0 { // something wrong, or only otherwise
			i := d.roll(len(l))
			switch d.roll(3) {
			case 0:
				l[i].Op = d.roll(8) - 1
			case 1:
				l[i].P[d.roll(3)].X = far[d.roll(len(far))]
			case 2:
				l[i].P[d.roll(3)].Y = most
			}
		}
		both(t, l)
	}
}

// R3: Trace's lines are new memory, each a list of its own.
func TestTraceNew(t *testing.T) {
	l := []api.Step{move(0, 0), line(5, 0), line(0, 0), shut(), move(1, 1), line(2, 2), move(0, 0), quad(pt(64, 0), pt(64, 64))}
	first, _ := path.Trace(l)
	for i := range first {
		for k := range first[i].Pts {
			first[i].Pts[k] = pt(99, 99)
		}
		first[i].Pts = append(first[i].Pts, pt(98, 98), pt(98, 98))
		for k := i + 1; k < len(first); k++ {
			if slices.Contains(first[k].Pts, pt(99, 99)) || slices.Contains(first[k].Pts, pt(98, 98)) {
				t.Errorf("lines %d and %d share their points", i, k)
			}
		}
	}
	both(t, l)
}
