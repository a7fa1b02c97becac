package stroke_test

import (
	"slices"
	"testing"

	"frisket/api"
	"frisket/dash"
	"frisket/stroke"
)

// all answers what All is to answer, by dash's pieces.
func all(l []api.Line, with api.Pen) ([]api.Seg, api.Errno) {
	if !may(with) {
		return nil, api.ErrArg
	}
	var out []api.Seg
	for _, one := range l {
		pieces, e := dash.Cut(one, with.Dash, with.Phase)
		if e != api.OK {
			return nil, e
		}
		for _, piece := range pieces {
			areas, e := line(piece, with)
			if e != api.OK {
				return nil, e
			}
			out = append(out, around(areas)...)
			if len(out) > segs {
				return nil, api.ErrMany
			}
		}
	}
	return out, api.OK
}

// allIs holds what All answers against what is wanted, and what it was handed against what that was.
func allIs(t *testing.T, l []api.Line, with api.Pen, want []api.Seg, e api.Errno) {
	t.Helper()
	was, penWas := slices.Clone(l), copied(with)
	for i := range was {
		was[i].Pts = slices.Clone(l[i].Pts)
	}
	if got, err := stroke.All(l, with); !slices.Equal(got, want) || err != e {
		t.Errorf("All(%v, %v): %d %v, %v, not %d %v, %v", l, with, len(got), got, err, len(want), want, e)
	}
	if !slices.EqualFunc(l, was, func(a, b api.Line) bool { return a.Closed == b.Closed && slices.Equal(a.Pts, b.Pts) }) {
		t.Errorf("All changed %v to %v", was, l)
	}
	kept(t, with, penWas)
}

// allModel holds what All answers against the chapter's words.
func allModel(t *testing.T, l []api.Line, with api.Pen) {
	t.Helper()
	want, e := all(l, with)
	allIs(t, l, with, want, e)
}

// ways answers ways, each told by four numbers.
func ways(parts ...int) []api.Seg {
	var out []api.Seg
	for i := 0; i+3 < len(parts); i += 4 {
		out = append(out, api.Seg{A: pt(parts[i], parts[i+1]), B: pt(parts[i+2], parts[i+3])})
	}
	return out
}

// P16.4: by hand: each area's ways, back to its first point; by a pattern, of each piece.
func TestAllHand(t *testing.T) {
	thin := pen(4, 0, 0)
	dashed := thin
	dashed.Dash = []int{3, 2}
	late := dashed
	late.Phase = 4
	first, second := ways(0, -2, 3, -2, 3, -2, 3, 2, 3, 2, 0, 2, 0, 2, 0, -2), ways(5, -2, 8, -2, 8, -2, 8, 2, 8, 2, 5, 2, 5, 2, 5, -2)
	for _, c := range []struct {
		l    []api.Line
		with api.Pen
		want []api.Seg
	}{
		{nil, thin, nil},
		{[]api.Line{{}}, thin, nil},
		{[]api.Line{open(0, 0, 10, 0)}, thin, ways(0, -2, 10, -2, 10, -2, 10, 2, 10, 2, 0, 2, 0, 2, 0, -2)},
		{[]api.Line{open(0, 0, 10, 0)}, dashed, slices.Concat(first, second)},
		{[]api.Line{open(0, 0, 3, 0), closed(), open(5, 5), open(5, 0, 8, 0)}, thin, slices.Concat(first, second)},
		{[]api.Line{open(-1, 0, 9, 0)}, late, slices.Concat(first, second)},
		{[]api.Line{open(0, 0, 3, 0), open(0, 0, 3, 0)}, dashed, slices.Concat(first, first)},
		{[]api.Line{closed(0, 0, 3, 0)}, thin, slices.Concat(first, ways(3, 2, 0, 2, 0, 2, 0, -2, 0, -2, 3, -2, 3, -2, 3, 2))},
		{[]api.Line{closed(0, 0, 3, 0)}, dashed, slices.Concat(first, ways(1, 2, 0, 2, 0, 2, 0, -2, 0, -2, 1, -2, 1, -2, 1, 2))}, // from 3 to 0, of which 2 are left out
		{[]api.Line{open(0, 0, 10, 0, 10, -10)}, thin, ways(0, -2, 10, -2, 10, -2, 10, 2, 10, 2, 0, 2, 0, 2, 0, -2, 8, 0, 8, -10, 8, -10, 12, -10, 12, -10, 12, 0, 12, 0, 8, 0, 12, 0, 10, 2, 10, 2, 10, 0, 10, 0, 12, 0)},
	} {
		allIs(t, c.l, c.with, c.want, api.OK)
	}
}

// P16.4: no way goes from a point to itself: a little disc's points are often where the one ahead is.
func TestAllSame(t *testing.T) {
	got, e := stroke.All([]api.Line{open(0, 0, 9, 0)}, pen(2, api.CapRound, 0))
	if want := 4 + 8 + 8; e != api.OK || len(got) != want {
		t.Errorf("All of a thin way: %d ways, %v, not %d", len(got), e, want)
	}
	for _, s := range got {
		if s.A == s.B {
			t.Errorf("a way from %v to itself", s.A)
		}
	}
	allIs(t, []api.Line{open(0, 0, 100, 0, 200, 1)}, pen(4, 0, api.JoinMiter), ways(0, -2, 100, -2, 100, -2, 100, 2, 100, 2, 0, 2, 0, 2, 0, -2, 100, -2, 200, -1, 200, -1, 200, 3, 200, 3, 100, 2, 100, 2, 100, -2), api.OK)
}

// rows answers as many ways, 10 long each; first of all as many bent ones.
func rows(bent, straight int) []api.Line {
	var out []api.Line
	for i := range bent {
		out = append(out, open(0, 20*i, 10, 20*i, 10, 20*i+10))
	}
	for i := range straight {
		out = append(out, open(50, 20*i, 60, 20*i))
	}
	return out
}

// P16.4: 3000 ways may be, not one more: a straight line has 4, a bent one 11.
func TestAllMany(t *testing.T) {
	for _, c := range []struct {
		bent, straight, want int
		e                    api.Errno
	}{
		{0, 749, 2996, api.OK}, {0, 750, 3000, api.OK}, {0, 751, 0, api.ErrMany},
		{1, 747, 2999, api.OK}, {3, 742, 0, api.ErrMany}, {2, 744, 2998, api.OK}, {2, 745, 0, api.ErrMany}, {4, 739, 3000, api.OK},
	} {
		l := rows(c.bent, c.straight)
		got, e := stroke.All(l, pen(4, 0, 0))
		if len(got) != c.want || e != c.e {
			t.Errorf("%d bent ones, %d straight ones: %d ways, %v", c.bent, c.straight, len(got), e)
		}
		allModel(t, l, pen(4, 0, 0))
		slices.Reverse(l)
		allModel(t, l, pen(4, 0, 0))
	}
	for _, n := range []int{749, 750, 751, 2000} { // one line of so many ways
		var l api.Line
		for i := range n + 1 {
			l.Pts = append(l.Pts, pt(10*i, 0))
		}
		allModel(t, []api.Line{l}, pen(4, 0, 0))
		with := pen(4, 0, 0)
		with.Dash = []int{10 * n, 1}
		allModel(t, []api.Line{l}, with)
	}
	for _, n := range []int{2996, 3000, 3001, 3004, 8000} { // pieces of 4 ways each
		with := pen(4, 0, 0)
		with.Dash = []int{2}
		allModel(t, []api.Line{open(0, 0, n/2, 0), open(0, 9, n/2, 9)}, with)
	}
}

// P16.4: ErrArg ahead of all others, be there no line.
func TestAllWrong(t *testing.T) {
	for _, with := range wrongPens() {
		for _, l := range [][]api.Line{nil, {open(0, 0, 10, 0)}, {open(0, 0, 1<<30, 0)}, {open(0, most, 10, most)}, rows(0, 800)} {
			allIs(t, l, with, nil, api.ErrArg)
		}
	}
}

// P16.4: then line by line, of each Cut's error ahead of Line's and of ErrMany; piece by piece Line's ahead of ErrMany, but only as far as one has come by then.
func TestAllOrder(t *testing.T) {
	thin, round := pen(4, 0, 0), pen(2000, api.CapRound, 0)
	dashed := thin
	dashed.Dash = []int{1}
	dots := round
	dots.Dash = []int{8400}
	full := rows(0, 750)
	fine, wrong, beyond, many := open(0, 0, 10, 0), open(0, 0, most+1, 0), open(0, most, 10, most), open(0, 0, 1001, 0)
	allPoints := func(n int, last api.Point) api.Line {
		var l api.Line
		for i := range n {
			l.Pts = append(l.Pts, pt(10*i, 0))
		}
		return api.Line{Pts: append(l.Pts, last)}
	}
	for _, c := range []struct {
		l    []api.Line
		with api.Pen
		e    api.Errno
	}{
		{[]api.Line{fine, wrong}, thin, api.ErrRange},
		{[]api.Line{fine, beyond}, thin, api.ErrRange},
		{[]api.Line{fine, many}, dashed, api.ErrMany},
		{[]api.Line{many, wrong}, dashed, api.ErrMany},
		{[]api.Line{wrong, many}, dashed, api.ErrRange},
		{[]api.Line{beyond, many}, dashed, api.ErrRange},
		{[]api.Line{many, beyond}, dashed, api.ErrMany},
		{[]api.Line{open(0, most, 1001, most)}, dashed, api.ErrMany}, // Cut's ahead of Line's
		{append(slices.Clone(full), wrong), thin, api.ErrRange},
		{append(slices.Clone(full), beyond), thin, api.ErrRange},
		{append(slices.Clone(full), fine, wrong), thin, api.ErrMany},
		{append(slices.Clone(full), fine, beyond), thin, api.ErrMany},
		{append(slices.Clone(full), open(), wrong), thin, api.ErrRange},
		{[]api.Line{allPoints(800, pt(most, most))}, thin, api.ErrRange}, // one piece, whose last way is beyond: Line's ahead of ErrMany
		{[]api.Line{allPoints(800, pt(most-2, most-2))}, thin, api.ErrMany},
		{[]api.Line{open(0, 0, most, 0)}, dots, api.ErrMany},  // 84 pieces are too many, and only the last one is beyond
		{[]api.Line{open(most, 0, 0, 0)}, dots, api.ErrRange}, // the first one is
	} {
		allModel(t, c.l, c.with)
		if got, e := stroke.All(c.l, c.with); e != c.e || len(got) > 0 {
			t.Errorf("%d lines by %v: %d ways, %v, not %v", len(c.l), c.with, len(got), e, c.e)
		}
	}
}

// P16.4: all lines of up to three of a few points, by some patterns.
func TestAllSmall(t *testing.T) {
	patterns := [][]int{nil, {1}, {2, 1}, {3, 1, 2}, {9}}
	smallLines(3, func(l api.Line) {
		for i, pattern := range patterns {
			for _, with := range pens(2 + i) {
				with.Dash, with.Phase = pattern, i
				allModel(t, []api.Line{l}, with)
			}
		}
	})
}

// P16.4: any lines, patterns and pens, against the chapter's words.
func TestAllDice(t *testing.T) {
	d := dice(46)
	for range 3000 {
		n := []int{5, 40, 3000, most}[d.roll(4)]
		var l []api.Line
		for range d.roll(4) {
			l = append(l, d.line(d.roll(6), n))
		}
		with := d.pen([]int{9, 200, mostWidth}[d.roll(3)])
		for range d.roll(5) {
			with.Dash = append(with.Dash, 1+d.roll(n))
		}
		with.Phase = d.roll(2 * n)
		allModel(t, l, with)
	}
}

// P16.4, P16.5: of each area what goes out of a point comes to it as often.
func TestAllRound(t *testing.T) {
	d := dice(47)
	for range 500 {
		with := d.pen(60)
		with.Dash = []int{7, 5}
		got, e := stroke.All([]api.Line{d.line(4, 90), d.line(3, 50)}, with)
		if e != api.OK && e != api.ErrMany {
			t.Fatal(e)
		}
		ends := map[api.Point]int{}
		for _, s := range got {
			ends[s.A]++
			ends[s.B]--
		}
		for p, n := range ends {
			if n != 0 {
				t.Errorf("%d more ways go out of %v than come to it", n, p)
			}
		}
	}
}
