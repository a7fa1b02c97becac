package cross_test

import (
	"slices"
	"testing"

	"frisket/api"
	"frisket/cross"
)

// P17.2: by hand: a way's ends and what it meets, each once, from its beginning on.
func TestCutsByHand(t *testing.T) {
	across, down, up := way(0, 0, 9, 0), way(0, 9, 9, 0), way(4, 0, 4, 12)
	for _, c := range []struct {
		s    api.Seg
		l    []api.Seg
		want string
	}{
		{way(0, 0, 4, 4), []api.Seg{way(0, 4, 4, 0)}, "0 0, 2 2, 4 4"},
		{way(4, 4, 0, 0), []api.Seg{way(0, 4, 4, 0)}, "4 4, 2 2, 0 0"},
		{across, nil, "0 0, 9 0"},
		{across, []api.Seg{}, "0 0, 9 0"},
		{across, []api.Seg{across}, "0 0, 9 0"},
		{across, []api.Seg{turned(across), across}, "0 0, 9 0"},
		{across, []api.Seg{way(0, 1, 9, 1), way(10, -1, 10, 1), way(-1, -1, -1, 1)}, "0 0, 9 0"},
		{across, []api.Seg{way(7, 1, 7, -1), way(1, -1, 2, 1), way(5, 0, 5, 3)}, "0 0, 3/2 0, 5 0, 7 0, 9 0"},
		{across, []api.Seg{way(3, -1, 3, 1), way(2, -1, 4, 1), way(4, -1, 2, 1), way(3, -1, 3, 1), way(3, 0, 3, 0), way(3, 0, 8, 8)}, "0 0, 3 0, 9 0"},
		{across, []api.Seg{way(6, 0, 2, 0)}, "0 0, 2 0, 6 0, 9 0"},
		{across, []api.Seg{way(6, 0, 12, 0), way(-3, 0, 2, 0)}, "0 0, 2 0, 6 0, 9 0"},
		{across, []api.Seg{way(-6, 0, 12, 0)}, "0 0, 9 0"},
		{across, []api.Seg{way(0, 0, 0, 5), way(9, 0, 9, 5), way(9, 0, 12, 0)}, "0 0, 9 0"},
		{turned(across), []api.Seg{way(7, 1, 7, -1), way(1, -1, 2, 1), way(5, 0, 5, 3)}, "9 0, 7 0, 5 0, 3/2 0, 0 0"},
		{down, []api.Seg{way(0, 0, 9, 9), way(2, 2, 2, 7), way(0, 1, 9, 1)}, "0 9, 2 7, 9/2 9/2, 8 1, 9 0"},
		{turned(down), []api.Seg{way(0, 0, 9, 9), way(2, 2, 2, 7), way(0, 1, 9, 1)}, "9 0, 8 1, 9/2 9/2, 2 7, 0 9"},
		{up, []api.Seg{way(0, 3, 8, 4), way(4, 7, 4, 9), way(0, 10, 4, 10)}, "4 0, 4 7/2, 4 7, 4 9, 4 10, 4 12"},
		{turned(up), []api.Seg{way(0, 3, 8, 4), way(4, 7, 4, 9), way(0, 10, 4, 10)}, "4 12, 4 10, 4 9, 4 7, 4 7/2, 4 0"},
		{way(3, 3, 3, 3), nil, "3 3"},
		{way(3, 3, 3, 3), []api.Seg{way(0, 0, 6, 6), way(3, 3, 3, 3), way(3, 0, 3, 9), way(4, 0, 4, 9)}, "3 3"},
		{way(-most, -most, most, most), []api.Seg{way(most, -most, -most, most), way(-most, most, most, most)}, "-8388607 -8388607, 0 0, 8388607 8388607"},
	} {
		cutsIs(t, c.s, c.l, told(t, c.want))
	}
}

// P17.2: each way of small grids, cut by all others.
func TestCutsOfSmall(t *testing.T) {
	for _, all := range [][]api.Seg{grid(3, 3), grid(4, 2), grid(1, 5)} {
		for i, s := range all {
			cutsIs(t, s, all, cuts(s, all))
			cutsIs(t, s, all[i:min(i+3, len(all))], cuts(s, all[i:min(i+3, len(all))]))
		}
	}
}

// P17.2: ways of all sizes to the limits.
func TestCutsOfAny(t *testing.T) {
	d := dice(4)
	for i := range 800 {
		n := []int{9, 300, 70000, most}[i%4]
		s := d.way(n)
		var l []api.Seg
		for range d.roll(12) {
			l = append(l, d.way(n), d.beside(s, n))
		}
		cutsIs(t, s, l, cuts(s, l))
	}
}

// P17.2: a way that may not be has no cuts, and cuts none.
func TestCutsOfWrong(t *testing.T) {
	some := []api.Seg{way(-5, 5, 5, -5), way(0, 0, 7, 0), way(-most, -most, most, most)}
	for _, w := range wrongWays() {
		for _, l := range [][]api.Seg{nil, some, {w}, {turned(w), some[0]}} {
			cutsIs(t, w, l, nil)
		}
		for i := range len(some) + 1 {
			cutsIs(t, way(0, 0, 9, 9), slices.Insert(slices.Clone(some), i, w), told(t, "0 0, 9 9"))
		}
		cutsIs(t, way(-3, 1, 5, 1), []api.Seg{w, way(2, 0, 2, 2), w, way(0, 0, 2, 2)}, told(t, "-3 1, 1 1, 2 1, 5 1"))
	}
}

// P17.2: a comb of many teeth, handed in out of order.
func TestCutsOfMany(t *testing.T) {
	const many = 3000
	var l []api.Seg
	var want []pair
	for i := range many {
		x := (i * 1009) % many // each once, as 1009 has no factor in common with 3000
		l = append(l, way(x+1, -1, x+1, 2))
	}
	want = append(want, at(pt(0, 0)))
	for x := range many {
		want = append(want, at(pt(x+1, 0)))
	}
	want = append(want, at(pt(many+1, 0)))
	cutsIs(t, way(0, 0, many+1, 0), l, want)
}

// P17.2: an answer is new memory, and its points share none; what stands behind the ways stays as it is.
func TestCutsAreNew(t *testing.T) {
	all := []api.Seg{way(7, 1, 7, -1), way(1, -1, 2, 1), way(5, 0, 5, 3), way(0, 0, 9, 0)}
	s, few, many := way(0, 0, 9, 0), told(t, "0 0, 3/2 0, 7 0, 9 0"), told(t, "0 0, 3/2 0, 5 0, 7 0, 9 0")
	apartIs(t, cross.Cuts(s, all[:2]), few)
	apartIs(t, cross.Cuts(turned(s), nil), told(t, "9 0, 0 0"))
	cutsIs(t, s, all[:2], few)
	cutsIs(t, s, all, many)
}

// P17.2: through one another, by hand: in one point, no end of either.
func TestCrossByHand(t *testing.T) {
	for _, h := range hand {
		crossIs(t, h.s, h.t, h.through)
	}
}

// P17.2: all ways between the points of small grids.
func TestCrossOfSmall(t *testing.T) {
	for _, all := range [][]api.Seg{grid(3, 3), grid(5, 2), grid(4, 3)} {
		for _, s := range all {
			for _, u := range all {
				if got, want := cross.Cross(s, u), through(s, u); got != want {
					t.Errorf("Cross(%v, %v): %t", s, u, got)
				}
			}
		}
	}
}

// P17.2: ways of all sizes to the limits, and such as just go through one another or just don't.
func TestCrossOfAny(t *testing.T) {
	d := dice(5)
	for i := range 6000 {
		n := []int{9, 300, 70000, most}[i%4]
		s := d.way(n)
		for _, u := range []api.Seg{d.way(n), d.beside(s, n)} {
			crossIs(t, s, u, through(s, u))
		}
	}
}

// P17.2: ways that may not be go through none.
func TestCrossOfWrong(t *testing.T) {
	for _, w := range wrongWays() {
		for _, s := range []api.Seg{way(0, 0, 0, 0), way(-5, -5, 5, 5), way(-5, 5, 5, -5), way(-most, 1, most, 1), way(1, most, 1, -most), w, api.Seg{A: w.B, B: pt(3, 3)}} {
			crossIs(t, s, w, false)
		}
	}
}
