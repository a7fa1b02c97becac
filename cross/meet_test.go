package cross_test

import (
	"testing"

	"frisket/api"
	"frisket/cross"
	"frisket/spot"
)

// hand are pairs of ways, what both have, and if they go through one another.
var hand = []struct {
	s, t    api.Seg
	meet    string
	through bool
}{
	{way(0, 0, 4, 4), way(0, 4, 4, 0), "2 2", true}, // the chapter's example
	{way(0, 0, 3, 1), way(1, 1, 2, 0), "3/2 1/2", true},
	{way(0, 0, 5, 3), way(0, 2, 7, 0), "70/31 42/31", true},
	{way(0, 0, -5, -3), way(0, -2, -7, 0), "-70/31 -42/31", true},
	{way(0, 0, 1, 1), way(0, 1, 1, 0), "1/2 1/2", true},
	{way(-1, 0, 1, 0), way(0, -1, 0, 1), "0 0", true},
	{way(-3, 2, 5, 2), way(1, -7, 1, 3), "1 2", true},
	{way(0, 0, 4, 0), way(1, -1, 2, 2), "4/3 0", true},

	// an end of the one on the other one, and an end on an end
	{way(0, 0, 4, 4), way(2, 2, 9, 1), "2 2", false},
	{way(0, 0, 4, 0), way(3, 0, 3, 5), "3 0", false},
	{way(0, 0, 4, 0), way(4, -1, 4, 1), "4 0", false},
	{way(0, 0, 4, 0), way(4, 0, 4, 4), "4 0", false},
	{way(0, 0, 4, 4), way(0, 0, 4, 5), "0 0", false},
	{way(0, 0, 3, 6), way(-1, 3, 1, 2), "1 2", false},

	// just not: short of the other one, beside it, beyond its end
	{way(0, 0, 4, 4), way(0, 1, 3, 4), "", false},
	{way(0, 0, 4, 4), way(0, 4, 1, 2), "", false},
	{way(0, 0, 4, 4), way(0, 4, 2, 3), "", false},
	{way(0, 0, 4, 4), way(3, 2, 6, 0), "", false},
	{way(0, 0, 4, 4), way(4, 5, 5, 4), "", false},
	{way(0, 0, 4, 0), way(5, -1, 5, 1), "", false},
	{way(0, 0, 4, 0), way(5, 0, 7, 3), "", false},
	{way(0, 0, 4, 0), way(2, 1, 2, 3), "", false},
	{way(0, 0, 4, 1), way(2, 1, 2, 3), "", false},
	{way(0, 0, 4, 2), way(6, 3, 5, 7), "", false}, // an end on the line, not on the way

	// on one line
	{way(0, 0, 2, 2), way(3, 3, 5, 5), "", false},
	{way(0, 0, 2, 2), way(2, 2, 5, 5), "2 2", false},
	{way(0, 0, 3, 3), way(2, 2, 5, 5), "2 2, 3 3", false},
	{way(0, 0, 5, 5), way(2, 2, 3, 3), "2 2, 3 3", false},
	{way(0, 0, 5, 5), way(0, 0, 3, 3), "0 0, 3 3", false},
	{way(0, 0, 5, 5), way(0, 0, 5, 5), "0 0, 5 5", false},
	{way(0, 5, 5, 0), way(1, 4, 9, -4), "1 4, 5 0", false},
	{way(7, 0, 7, 9), way(7, 3, 7, 12), "7 3, 7 9", false},
	{way(7, 0, 7, -9), way(7, -3, 7, -12), "7 -9, 7 -3", false},
	{way(7, 0, 7, 1), way(7, 2, 7, 3), "", false},
	{way(0, 7, 9, 7), way(3, 7, 12, 7), "3 7, 9 7", false},
	{way(0, 7, 1, 7), way(2, 7, 3, 7), "", false},
	{way(0, 7, 9, 7), way(0, 8, 9, 8), "", false},
	{way(0, 0, 2, 2), way(1, 0, 3, 2), "", false},

	// of a point alone
	{way(1, 1, 1, 1), way(1, 1, 1, 1), "1 1", false},
	{way(1, 1, 1, 1), way(1, 2, 1, 2), "", false},
	{way(1, 1, 1, 1), way(0, 0, 2, 2), "1 1", false},
	{way(2, 2, 2, 2), way(0, 0, 2, 2), "2 2", false},
	{way(3, 3, 3, 3), way(0, 0, 2, 2), "", false},
	{way(-1, -1, -1, -1), way(0, 0, 2, 2), "", false},
	{way(1, 0, 1, 0), way(0, 0, 2, 2), "", false},
	{way(2, 0, 2, 0), way(0, 0, 2, 2), "", false},
	{way(0, 0, 0, 0), way(0, 0, 0, 5), "0 0", false},
	{way(0, 0, 0, 0), way(-1, 0, 5, 0), "0 0", false},

	// at the page's limits
	{way(-most, -most, most, most), way(-most, most, most, -most), "0 0", true},
	{way(-most, -most, most, most), way(most, most, most, -most), "8388607 8388607", false},
	{way(-most, -most, most, most), way(-most, -most, most, most), "-8388607 -8388607, 8388607 8388607", false},
	{way(-most, -most, most, most), way(-most, -most+1, most, most-1), "0 0", true},
	{way(-most, -most, most, most), way(-most, -most+1, most-1, most), "", false},
	{way(-most, -most, most, most-1), way(-most, -most+1, most, most), "", false},
	{way(most, -most, most, most), way(most, most, most, most), "8388607 8388607", false},
}

// P17.1: what both ways have, by hand: none, one, or the least and the greatest.
func TestMeetByHand(t *testing.T) {
	for _, h := range hand {
		meetIs(t, h.s, h.t, told(t, h.meet))
	}
}

// P17.1: all ways between the points of small grids.
func TestMeetOfSmall(t *testing.T) {
	for _, all := range [][]api.Seg{grid(3, 3), grid(5, 2), grid(4, 3)} {
		for _, s := range all {
			for _, u := range all {
				spotsAre(t, "Meet", s, u, cross.Meet(s, u), meet(s, u))
			}
		}
	}
}

// P17.1: ways of all sizes to the limits, and such as just meet or just don't.
func TestMeetOfAny(t *testing.T) {
	d := dice(1)
	for i := range 6000 {
		n := []int{9, 300, 70000, most}[i%4]
		s := d.way(n)
		for _, u := range []api.Seg{d.way(n), d.beside(s, n)} {
			meetIs(t, s, u, meet(s, u))
		}
	}
}

// P17.1: nearly on one line, at the limits: where such ways meet hangs on the last step, and takes the longest words.
func TestMeetOfFlat(t *testing.T) {
	d := dice(2)
	at := func() int { return most - d.roll(4) }
	for range 3000 {
		s := way(-at(), -at(), at(), at())
		u := way(-at(), -at(), at(), at())
		meetIs(t, s, u, meet(s, u))
		level, upright := way(-at(), d.roll(3), at(), d.roll(3)), way(d.roll(3), at(), d.roll(3), -at())
		meetIs(t, s, level, meet(s, level))
		meetIs(t, upright, level, meet(upright, level))
		other := way(-at(), d.roll(3), at(), d.roll(3))
		meetIs(t, other, level, meet(other, level))
	}
}

// P17.1: a way that may not be has no points, whatever the other one is, and be it that one.
func TestMeetOfWrong(t *testing.T) {
	for _, w := range wrongWays() {
		for _, s := range []api.Seg{way(0, 0, 0, 0), way(-5, -5, 5, 5), way(-5, 5, 5, -5), way(-most, 0, most, 0), way(most, most, -most, -most), w, turned(w)} {
			meetIs(t, s, w, nil)
		}
	}
	for _, p := range wrongPoints() {
		meetIs(t, api.Seg{A: p, B: p}, api.Seg{A: p, B: pt(0, 0)}, nil)
	}
	// at the limits a way may be
	for _, p := range []api.Point{pt(most, 0), pt(0, most), pt(-most, 0), pt(0, -most), pt(most, -most)} {
		s := api.Seg{A: p, B: pt(1, 1)}
		meetIs(t, s, s, meet(s, s))
		meetIs(t, s, way(1, 1, 1, 1), told(t, "1 1"))
	}
}

// P17.3: what is met lies on both ways.
func TestMetLiesOnBoth(t *testing.T) {
	d := dice(3)
	seen := 0
	for i := range 4000 {
		n := []int{9, 300, most}[i%3]
		s := d.way(n)
		u := d.beside(s, n)
		for _, p := range cross.Meet(s, u) {
			seen++
			for _, w := range []api.Seg{s, u} {
				if !spot.On(spot.At(w.A), spot.At(w.B), p) {
					t.Errorf("%s isn't on %v", spot.Text(p), w)
				}
			}
		}
	}
	if seen < 1000 {
		t.Errorf("%d points alone", seen)
	}
}

// P17.1: an answer is new memory, and its points share none.
func TestMeetIsNew(t *testing.T) {
	for _, h := range hand {
		want := told(t, h.meet)
		apartIs(t, cross.Meet(h.s, h.t), want)
		spotsAre(t, "Meet", h.s, h.t, cross.Meet(h.s, h.t), want)
	}
}
