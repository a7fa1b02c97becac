package dash_test

import (
	"slices"
	"testing"

	"frisket/api"
	"frisket/dash"
	"frisket/gauge"
)

// pieces answers open lines, each told by its points' parts.
func pieces(l ...[]int) []api.Line {
	var out []api.Line
	for _, parts := range l {
		out = append(out, open(parts...))
	}
	return out
}

// P15.2: the chapter's example, and others by hand.
func TestCutHand(t *testing.T) {
	way := open(0, 0, 10, 0)
	for _, c := range []struct {
		l       api.Line
		pattern []int
		phase   int
		want    []api.Line
	}{
		{way, []int{3, 2}, 0, pieces([]int{0, 0, 3, 0}, []int{5, 0, 8, 0})},
		{way, []int{3, 2}, 1, pieces([]int{0, 0, 2, 0}, []int{4, 0, 7, 0}, []int{9, 0, 10, 0})}, // cut at both ends
		{way, []int{3, 2}, 2, pieces([]int{0, 0, 1, 0}, []int{3, 0, 6, 0}, []int{8, 0, 10, 0})},
		{way, []int{3, 2}, 3, pieces([]int{2, 0, 5, 0}, []int{7, 0, 10, 0})}, // it begins where a length does
		{way, []int{3, 2}, 4, pieces([]int{1, 0, 4, 0}, []int{6, 0, 9, 0})},
		{way, []int{3, 2}, 5, pieces([]int{0, 0, 3, 0}, []int{5, 0, 8, 0})}, // a whole round
		{way, []int{3, 2}, 5001, pieces([]int{0, 0, 2, 0}, []int{4, 0, 7, 0}, []int{9, 0, 10, 0})},
		{way, []int{3}, 0, pieces([]int{0, 0, 3, 0}, []int{6, 0, 9, 0})},
		{way, []int{3}, 3, pieces([]int{3, 0, 6, 0}, []int{9, 0, 10, 0})}, // left out the second time
		{way, []int{3}, 4, pieces([]int{2, 0, 5, 0}, []int{8, 0, 10, 0})},
		{way, []int{2, 1, 1}, 0, pieces([]int{0, 0, 2, 0}, []int{3, 0, 4, 0}, []int{6, 0, 7, 0}, []int{8, 0, 10, 0})},
		{way, []int{2, 1, 1}, 4, pieces([]int{2, 0, 3, 0}, []int{4, 0, 6, 0}, []int{7, 0, 8, 0})},
		{way, []int{2, 1, 1}, most, pieces([]int{1, 0, 3, 0}, []int{4, 0, 5, 0}, []int{7, 0, 8, 0}, []int{9, 0, 10, 0})}, // 8388607 is 7 beyond rounds of 8
		{way, []int{1, 2, 3, 4}, 0, pieces([]int{0, 0, 1, 0}, []int{3, 0, 6, 0})},
		{way, []int{1, 2, 3, 4}, 5, pieces([]int{0, 0, 1, 0}, []int{5, 0, 6, 0}, []int{8, 0, 10, 0})},
		{way, []int{10}, 0, pieces([]int{0, 0, 10, 0})},
		{way, []int{10}, 10, nil},
		{way, []int{20}, 0, pieces([]int{0, 0, 10, 0})},
		{way, []int{20}, 20, nil},
		{way, []int{20}, 15, pieces([]int{0, 0, 5, 0})},
		{way, []int{1, most}, 1, nil},
		{way, []int{1, most}, most, pieces([]int{1, 0, 2, 0})},
		{way, []int{most, most}, most, nil},
		{open(10, 0, 0, 0), []int{3, 2}, 0, pieces([]int{10, 0, 7, 0}, []int{5, 0, 2, 0})},
		{open(0, 0, 30, 40), []int{20, 10}, 0, pieces([]int{0, 0, 12, 16}, []int{18, 24, 30, 40})},
		{open(1, 2), []int{3}, 0, nil},
		{closed(1, 2), []int{3}, 0, nil},
		{open(1, 2, 1, 2, 1, 2), []int{3}, 0, nil},
		{open(), []int{3}, 0, nil},
		{closed(), []int{3}, 0, nil},
	} {
		cutIs(t, c.l, c.pattern, c.phase, c.want, api.OK)
	}
}

// P15.2: by hand: pieces go by the points between, around corners and over the way back, and stay open.
func TestCutBend(t *testing.T) {
	bend, ring := open(0, 0, 10, 0, 10, 10), closed(0, 0, 10, 0, 10, 10, 0, 10)
	for _, c := range []struct {
		l       api.Line
		pattern []int
		phase   int
		want    []api.Line
	}{
		{bend, []int{8, 4}, 0, pieces([]int{0, 0, 8, 0}, []int{10, 2, 10, 10})},
		{bend, []int{8, 4}, 4, pieces([]int{0, 0, 4, 0}, []int{8, 0, 10, 0, 10, 6})}, // around the corner
		{bend, []int{10}, 0, pieces([]int{0, 0, 10, 0})},                             // up to the corner
		{bend, []int{10}, 10, pieces([]int{10, 0, 10, 10})},                          // from the corner on
		{bend, []int{20}, 0, []api.Line{bend}},
		{ring, []int{40}, 0, pieces([]int{0, 0, 10, 0, 10, 10, 0, 10, 0, 0})},
		{ring, []int{40}, 5, pieces([]int{0, 0, 10, 0, 10, 10, 0, 10, 0, 5})}, // the rest is left out
		{ring, []int{40}, 45, pieces([]int{0, 5, 0, 0})},
		{ring, []int{35, 5}, 20, pieces([]int{0, 0, 10, 0, 10, 5}, []int{10, 10, 0, 10, 0, 0})}, // both ends are drawn, as two pieces
		{ring, []int{3, 30}, 0, pieces([]int{0, 0, 3, 0}, []int{0, 7, 0, 4})},
		{ring, []int{3, 34}, 0, pieces([]int{0, 0, 3, 0}, []int{0, 3, 0, 0})},
		{closed(0, 0, 10, 0), []int{8}, 4, pieces([]int{0, 0, 4, 0}, []int{8, 0, 0, 0})},
		{closed(0, 0, 10, 0), []int{8}, 12, pieces([]int{4, 0, 10, 0, 8, 0})}, // there and back
		{closed(0, 0, 10, 0), []int{6}, 9, pieces([]int{3, 0, 9, 0}, []int{5, 0, 0, 0})},
	} {
		cutIs(t, c.l, c.pattern, c.phase, c.want, api.OK)
	}
}

// P15.2: of neighbours that are the same the first one stays, be they points of the line or such as are rounded to one; those of one point are left out.
func TestCutSame(t *testing.T) {
	long := open(0, 0, 70, 70) // 98 long: 0.71, 1.43, 2.14 and so on
	for _, c := range []struct {
		l       api.Line
		pattern []int
		phase   int
		want    []api.Line
	}{
		{open(0, 0, 0, 0, 5, 0, 5, 0, 5, 0, 5, 5, 5, 5), []int{20}, 0, pieces([]int{0, 0, 5, 0, 5, 5})},
		{open(0, 0, 0, 0, 5, 0, 5, 0, 5, 0, 5, 5, 5, 5), []int{5}, 0, pieces([]int{0, 0, 5, 0})},
		{open(0, 0, 0, 0, 5, 0, 5, 0, 5, 0, 5, 5, 5, 5), []int{5}, 5, pieces([]int{5, 0, 5, 5})},
		{open(0, 0, 5, 0, 0, 0, 5, 0), []int{20}, 0, pieces([]int{0, 0, 5, 0, 0, 0, 5, 0})}, // no neighbours
		{closed(0, 0, 5, 0, 0, 0), []int{20}, 0, pieces([]int{0, 0, 5, 0, 0, 0})},
		{long, []int{1, 200}, 200, nil}, // from 1 to 2: one point
		{long, []int{1, 200}, 201, pieces([]int{0, 0, 1, 1})},
		{long, []int{2, 200}, 201, pieces([]int{1, 1, 2, 2})},
		{long, []int{200, 1}, 199, pieces([]int{0, 0, 1, 1}, []int{1, 1, 70, 70})}, // from 2 on
		{open(0, 0, 70, 70, 70, 71), []int{200}, 103, pieces([]int{0, 0, 69, 69})}, // 97: 69.29
		{open(0, 0, 70, 70, 70, 71), []int{98}, 0, pieces([]int{0, 0, 70, 70})},
		{open(0, 0, 70, 70, 70, 71), []int{98}, 98, pieces([]int{70, 70, 70, 71})},
	} {
		cutIs(t, c.l, c.pattern, c.phase, c.want, api.OK)
	}
}

// P15.2: without a pattern the line alone, as it is, be it one of no length.
func TestCutNone(t *testing.T) {
	for _, l := range []api.Line{open(), closed(), open(1, 2), closed(1, 2), open(1, 2, 1, 2), closed(3, 4, 3, 4, 5, 6, 3, 4), open(-most, -most, most, most)} {
		for _, phase := range []int{0, 1, most} {
			cutIs(t, l, nil, phase, []api.Line{l}, api.OK)
			cutIs(t, l, []int{}, phase, []api.Line{l}, api.OK)
		}
		for _, phase := range []int{-1, most + 1} {
			cutIs(t, l, nil, phase, nil, api.ErrArg)
		}
	}
	smallLines(3, func(l api.Line) { cutIs(t, l, nil, 0, []api.Line{l}, api.OK) })
}

// P15.2: ErrArg ahead of ErrRange, and that ahead of ErrMany.
func TestCutWrong(t *testing.T) {
	fine, many := open(0, 0, 10, 0), open(0, 0, 2000, 0)
	for _, n := range edges {
		if n < 1 || n > most {
			for _, pattern := range [][]int{{n}, {1, n}, {n, 1}, {1, 1, 1, 1, 1, 1, 1, n}} {
				for _, l := range []api.Line{fine, many, open(), open(most+1, 0), closed(0, 0, 0, -most-1)} {
					cutIs(t, l, pattern, 0, nil, api.ErrArg)
				}
			}
		}
		if n < 0 || n > most {
			for _, l := range []api.Line{fine, many, open(), open(most+1, 0), closed(0, 0, 0, -most-1)} {
				cutIs(t, l, []int{1}, n, nil, api.ErrArg)
				cutIs(t, l, []int{50, 50}, n, nil, api.ErrArg)
				cutIs(t, l, nil, n, nil, api.ErrArg)
			}
		}
	}
	cutIs(t, fine, []int{1, 1, 1, 1, 1, 1, 1, 1, 1}, 0, nil, api.ErrArg)
	cutIs(t, many, []int{1, 1, 1, 1, 1, 1, 1, 1, 1}, 0, nil, api.ErrArg)
	for _, p := range wrongPoints() {
		for place := range 4 {
			for _, closed := range []bool{false, true} {
				l := api.Line{Pts: slices.Insert(row(0, 0, 2000, 0, 9, 9), place, p), Closed: closed}
				for _, pattern := range [][]int{nil, {1}, {5000}, {3, 2}, {most, most}} {
					cutIs(t, l, pattern, 0, nil, api.ErrRange)
					cutIs(t, l, pattern, most, nil, api.ErrRange)
				}
			}
		}
		cutIs(t, api.Line{Pts: []api.Point{p}}, []int{1}, 0, nil, api.ErrRange)
		cutIs(t, api.Line{Pts: []api.Point{p}, Closed: true}, nil, 0, nil, api.ErrRange)
	}
}

// P15.2: 1000 lengths may begin ahead of the line's end, those that are left out, and the one in which the line begins, counted; not one that begins at its end.
func TestCutMany(t *testing.T) {
	for _, c := range []struct {
		end     int
		pattern []int
		phase   int
		e       api.Errno
	}{
		{999, []int{1}, 0, api.OK},
		{1000, []int{1}, 0, api.OK}, // one more begins at the end
		{1001, []int{1}, 0, api.ErrMany},
		{1000, []int{1}, 1, api.OK},
		{1001, []int{1}, most, api.ErrMany},
		{1000, []int{1, 1}, 1, api.OK},
		{1001, []int{1, 1}, 1, api.ErrMany},
		{2000, []int{2}, 0, api.OK},
		{2000, []int{2}, 2, api.OK},
		{2000, []int{2}, 1, api.ErrMany}, // 1 is left of the first one, 1 of the last one
		{1999, []int{2}, 1, api.OK},
		{2001, []int{2}, 0, api.ErrMany},
		{2500, []int{3, 2}, 0, api.OK},
		{2501, []int{3, 2}, 0, api.ErrMany},
		{2500, []int{3, 2}, 1, api.ErrMany},
		{2499, []int{3, 2}, 1, api.OK},
		{2500, []int{3, 2}, 3, api.OK},
		{2501, []int{3, 2}, 3, api.ErrMany},
		{4500, []int{1, 2, 3, 4, 5, 6, 7, 8}, 0, api.OK},
		{4501, []int{1, 2, 3, 4, 5, 6, 7, 8}, 0, api.ErrMany},
		{8388000, []int{8388}, 0, api.OK},
		{8388001, []int{8388}, 0, api.ErrMany},
		{most, []int{1}, most, api.ErrMany},
		{1, []int{1}, most, api.OK},
	} {
		l := open(0, 0, c.end, 0)
		cutModel(t, l, c.pattern, c.phase, spans)
		got, e := dash.Cut(l, c.pattern, c.phase)
		if e != c.e || e != api.OK && got != nil || e == api.OK && len(got) == 0 && c.end > 1 {
			t.Errorf("%d, %v, %d: %d pieces, %v", c.end, c.pattern, c.phase, len(got), e)
		}
	}
}

// P15.2: a line of many ways: what is too many hangs on lengths, not on points.
func TestCutManyPoints(t *testing.T) {
	var l api.Line
	for i := range 5000 {
		l.Pts = append(l.Pts, pt(i%2, i/2%2)) // a square of 1, around and around
	}
	for _, pattern := range [][]int{{4999}, {6000}, {1000, 3}, {5}, {7, 3}, {4}, {1, 2}, {6, 3}, {5, 4}} {
		for _, phase := range []int{0, 1, 3, 4, 7} {
			cutModel(t, l, pattern, phase, spans)
			l.Closed = !l.Closed
		}
	}
}

// P15.2: all lines of a few points, by some patterns and all phases of a round and more.
func TestCutSmall(t *testing.T) {
	patterns := [][]int{{1}, {2}, {5}, {1, 1}, {3, 2}, {1, 4}, {2, 1, 1}, {4, 3, 1, 2}}
	smallLines(3, func(l api.Line) {
		for _, pattern := range patterns {
			for phase := range total(pattern) + 2 {
				cutModel(t, l, pattern, phase, steps)
			}
		}
	})
}

// P15.2: any lines, patterns and phases, against the chapter's words, read in two ways.
func TestCutDice(t *testing.T) {
	d := dice(33)
	for range 10000 {
		l := d.line(d.roll(7), []int{3, 20, 90}[d.roll(3)])
		pattern := d.pattern(d.roll(10), []int{2, 9, 60, 400}[d.roll(4)])
		phase := d.roll([]int{2, 30, 2000}[d.roll(3)])
		cutModel(t, l, pattern, phase, steps)
		cutModel(t, l, pattern, phase, spans)
	}
}

// P15.2: long lines, patterns and phases, up to the limits.
func TestCutLimits(t *testing.T) {
	d := dice(34)
	for range 2000 {
		l := d.line(1+d.roll(6), []int{2000, 90000, most, most}[d.roll(4)])
		pattern := d.pattern(1+d.roll(8), []int{500, 90000, most, most}[d.roll(4)])
		phase := d.roll([]int{1000, 100000, most + 1}[d.roll(3)])
		cutModel(t, l, pattern, phase, spans)
	}
	for _, l := range []api.Line{open(-most, -most, most, most), closed(-most, -most, most, -most, most, most, -most, most)} {
		for _, pattern := range [][]int{{most}, {most, most}, {1, most}, {most, 1}, {most, most, most, most, most, most, most, most}, {1}} {
			for _, phase := range []int{0, 1, most - 1, most} {
				cutModel(t, l, pattern, phase, spans)
			}
		}
	}
}

// P15.2: each piece is new memory, which shares none with the line or another piece.
func TestCutMemory(t *testing.T) {
	l := closed(0, 0, 10, 0, 10, 10, 0, 10)
	for _, pattern := range [][]int{nil, {40}, {10}, {12, 1}, {3, 2}} {
		got, e := dash.Cut(l, pattern, 0)
		want, _ := cut(l, pattern, 0, spans)
		if e != api.OK || len(got) == 0 {
			t.Fatal(pattern, e)
		}
		for i := range got {
			_ = append(got[i].Pts, pt(99, 99), pt(99, 99))
			for k := range got[i].Pts {
				got[i].Pts[k] = pt(88, 88)
			}
			for k := i + 1; k < len(got); k++ {
				if !same(got[k], want[k]) {
					t.Errorf("piece %d changed with %d: %v", k, i, got[k])
				}
			}
		}
		if !same(l, closed(0, 0, 10, 0, 10, 10, 0, 10)) {
			t.Fatalf("the line changed with its pieces: %v", l)
		}
	}
}

// P15.3: what is drawn lies within the line's box.
func TestCutBox(t *testing.T) {
	d := dice(35)
	for range 5000 {
		l := d.line(1+d.roll(6), []int{3, 90, 3000, most}[d.roll(4)])
		least, greatest, _ := gauge.Box(l.Pts)
		n := 1 + gauge.Long(l)/(1+d.roll(400))
		got, e := dash.Cut(l, []int{min(n, most)}, d.roll(n)%most)
		if e != api.OK {
			t.Fatal(l, n, e)
		}
		for _, piece := range got {
			p, q, _ := gauge.Box(piece.Pts)
			if p.X < least.X || p.Y < least.Y || q.X > greatest.X || q.Y > greatest.Y || piece.Closed {
				t.Errorf("a piece of %v: %v", l, piece)
			}
		}
	}
}

// P15.3: a pattern of one length that is as long as the line draws all of it.
func TestCutWhole(t *testing.T) {
	d := dice(36)
	for range 5000 {
		l := d.line(2+d.roll(6), []int{3, 90, 3000, 500000}[d.roll(4)])
		end := gauge.Long(l)
		if end == 0 {
			continue
		}
		all := slices.Clone(l.Pts)
		if l.Closed {
			all = append(all, all[0])
		}
		cutIs(t, l, []int{end}, 0, []api.Line{{Pts: slices.Compact(all)}}, api.OK)
	}
	cutIs(t, open(-4194303, 0, 4194304, 0), []int{most}, 0, pieces([]int{-4194303, 0, 4194304, 0}), api.OK)
}
