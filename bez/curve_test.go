package bez_test

import (
	"slices"
	"testing"

	"frisket/api"
	"frisket/bez"
)

// P11.2: the chapter's example, and others by hand.
func TestCurveHand(t *testing.T) {
	for _, c := range []struct{ l, want []api.Point }{
		{[]api.Point{{X: 0, Y: 0}, {X: 64, Y: 0}, {X: 64, Y: 64}}, []api.Point{{X: 48, Y: 16}, {X: 64, Y: 64}}},
		{[]api.Point{{X: 64, Y: 64}, {X: 64, Y: 0}, {X: 0, Y: 0}}, []api.Point{{X: 48, Y: 16}, {X: 0, Y: 0}}},
		{[]api.Point{{X: 1, Y: 2}, {X: 3, Y: 4}, {X: 5, Y: 7}}, []api.Point{{X: 5, Y: 7}}},
		{[]api.Point{{X: 0, Y: 0}, {X: 0, Y: 90}, {X: 45, Y: 180}}, []api.Point{{X: 11, Y: 90}, {X: 45, Y: 180}}},
		{[]api.Point{{X: 0, Y: 0}, {X: 0, Y: 90}, {X: 90, Y: 180}}, []api.Point{{X: 10, Y: 60}, {X: 40, Y: 120}, {X: 90, Y: 180}}},
		{[]api.Point{{X: 0, Y: 0}, {X: 0, Y: 256}, {X: 256, Y: 256}, {X: 256, Y: 0}}, []api.Point{{X: 40, Y: 144}, {X: 128, Y: 192}, {X: 216, Y: 144}, {X: 256, Y: 0}}},
		{[]api.Point{{X: 0, Y: 0}, {X: 64, Y: 0}, {X: 64, Y: 0}, {X: 128, Y: 64}}, []api.Point{{X: 64, Y: 8}, {X: 128, Y: 64}}},
		{[]api.Point{{X: 5, Y: -5}, {X: 5, Y: -5}, {X: 5, Y: -5}, {X: 5, Y: -5}}, []api.Point{{X: 5, Y: -5}}},
		{[]api.Point{{X: 3, Y: 0}, {X: 2, Y: 0}, {X: 1, Y: 0}, {X: 0, Y: 1}}, []api.Point{{X: 0, Y: 1}}},
	} {
		lays(t, c.l, c.want, api.OK)
		lays(t, turned(c.l), turned(c.want), api.OK)
	}
}

// P11.2: each of the points alone, to how much it weighs half way.
func TestCurveWeights(t *testing.T) {
	for i, want := range []int{16, 32, 16} {
		l := make([]api.Point, 3)
		l[i] = api.Point{X: 64, Y: 2048}
		got, e := lay(l)
		n := len(got)
		if e != api.OK || n < 12 || n%2 != 0 || got[n/2-1] != (api.Point{X: want, Y: 32 * want}) {
			t.Errorf("curve of %v: %v, %v", l, got, e)
		}
	}
	for i, want := range []int{8, 24, 24, 8} {
		l := make([]api.Point, 4)
		l[i] = api.Point{X: 64, Y: 2048}
		got, e := lay(l)
		n := len(got)
		if e != api.OK || n < 12 || n%2 != 0 || got[n/2-1] != (api.Point{X: want, Y: 32 * want}) {
			t.Errorf("curve of %v: %v, %v", l, got, e)
		}
	}
}

// P11.2: halves go up, on both sides of 0; the others to what is nearer. Quad: a, twice b and c by 4 half way; Y alone makes it of two pieces.
func TestCurveNearest(t *testing.T) {
	for sum, want := range map[int]int{
		0: 0, 1: 0, 2: 1, 3: 1, 4: 1, 5: 1, 6: 2, 7: 2, 9: 2, 10: 3, -1: 0, -2: 0, -3: -1, -4: -1, -5: -1, -6: -1, -7: -2, -9: -2, -10: -2, -11: -3, 14: 4, -14: -3,
	} {
		for b := -2; b <= 2; b++ {
			for c := -2; c <= 2; c++ {
				l := []api.Point{{X: sum - 2*b - c}, {X: b, Y: 16}, {X: c}}
				lays(t, l, []api.Point{{X: want, Y: 8}, {X: c}}, api.OK)
				lays(t, turned(l), []api.Point{{X: 8, Y: want}, {Y: c}}, api.OK)
			}
		}
	}
}

// P11.2: the same of Cube: a, three times b, three times c, and d by 8.
func TestCurveNearestCube(t *testing.T) {
	for sum, want := range map[int]int{
		0: 0, 1: 0, 3: 0, 4: 1, 5: 1, 11: 1, 12: 2, 13: 2, 20: 3, -1: 0, -3: 0, -4: 0, -5: -1, -11: -1, -12: -1, -13: -2, -20: -2, -21: -3,
	} {
		for b := -2; b <= 2; b++ {
			for d := -2; d <= 2; d++ {
				l := []api.Point{{X: sum - 3*b - d}, {X: b, Y: 16}, {Y: 16}, {X: d, Y: 64}}
				if bez.Pieces(l...) != 2 {
					t.Fatal(l, bez.Pieces(l...))
				}
				lays(t, l, []api.Point{{X: want, Y: 20}, {X: d, Y: 64}}, api.OK)
				lays(t, turned(l), []api.Point{{X: 20, Y: want}, {X: 64, Y: d}}, api.OK)
			}
		}
	}
}

// P11.2: all small curves of two pieces and three, against the chapter's words.
func TestCurveSmall(t *testing.T) {
	for i := range 9 * 9 * 9 {
		for _, y := range []int{20, 50, -60} {
			l := []api.Point{{X: i%9 - 4, Y: y}, {X: i/9%9 - 4, Y: 1}, {X: i/81 - 4, Y: -1}}
			curves(t, l)
			curves(t, turned(l))
		}
	}
	for i := range 7 * 7 * 7 * 7 {
		for _, y := range []int{20, -60} {
			l := []api.Point{{X: i%7 - 3, Y: y}, {X: i/7%7 - 3, Y: 1}, {X: i/49%7 - 3}, {X: i/343 - 3, Y: -1}}
			curves(t, l)
			curves(t, turned(l))
		}
	}
}

// P11.2: each number of pieces, at the edges of what it holds, of both kinds.
func TestCurvePieces(t *testing.T) {
	for n := 1; n <= pieces; n++ {
		for by := -1; by <= 1; by++ {
			d := 16*n*n + by
			for _, s := range []int{d, -d} {
				curves(t, []api.Point{{X: s, Y: 7}, {X: 5, Y: 1}, {X: 10, Y: -3}})
				curves(t, []api.Point{{Y: s, X: 7}, {Y: 5, X: 1}, {Y: 10, X: -3}})
				curves(t, []api.Point{{X: 1, Y: -7}, {X: -5, Y: 1}, {X: -10, Y: 3}, {X: s - 15, Y: 9}})
				curves(t, []api.Point{{X: 1, Y: -7}, {X: -5, Y: 1}, {X: -10, Y: 3}, {X: 9, Y: s}})
			}
		}
	}
}

// P11.2: points at the limits, in each place, and just within.
func TestCurveLimits(t *testing.T) {
	parts := []int{-most, 1 - most, -1, 0, most - 1, most}
	for i := range 6 * 6 * 6 * 6 {
		a, b, c, d := parts[i%6], parts[i/6%6], parts[i/36%6], parts[i/216]
		curves(t, []api.Point{{X: a, Y: d}, {X: b, Y: -c}, {X: c, Y: a}, {X: d, Y: b}})
		if i < 216 {
			curves(t, []api.Point{{X: a, Y: c}, {X: b, Y: a}, {X: c, Y: -b}})
		}
	}
}

// P11.2: a point that may not be, in each place, whatever the others are: no points beside the error.
func TestCurveWrong(t *testing.T) {
	for _, p := range wrongPoints() {
		for many := 3; many <= 4; many++ {
			for at := range many {
				for _, other := range []api.Point{{}, {X: most, Y: -most}, {X: 50, Y: 60}} {
					l := make([]api.Point, many)
					for i := range l {
						l[i] = api.Point{X: other.X / (i + 1), Y: other.Y / (i + 1)}
					}
					l[at] = p
					lays(t, l, nil, api.ErrRange)
				}
			}
			lays(t, slices.Repeat([]api.Point{p}, many), nil, api.ErrRange)
		}
	}
	for at := range 4 {
		l := []api.Point{{X: 1}, {X: 90}, {X: 3}, {X: 4}}
		for _, n := range ends {
			for _, p := range []api.Point{{X: n}, {Y: n}} {
				l[at] = p
				curves(t, l)
				curves(t, l[:3])
			}
		}
	}
}

// P11.2: any curves, against the chapter's words.
func TestCurveDice(t *testing.T) {
	d := dice(42)
	var had [pieces + 1]int
	for range 20000 {
		l := d.points(3+d.roll(2), []int{4, 20, 300, 1500, 5000, most, most + 1}[d.roll(7)])
		had[count(l)]++
		curves(t, l)
	}
	for n, times := range had {
		if times == 0 {
			t.Errorf("no curves of %d pieces came", n)
		}
	}
}

// P11.3: a curve ends where its last point is, has its Pieces, and stays between the least and the greatest of its points' parts.
func TestCurveBox(t *testing.T) {
	d := dice(43)
	for range 50000 {
		l := d.points(3+d.roll(2), []int{3, 40, 700, 9000, most}[d.roll(5)])
		got, e := lay(l)
		if e != api.OK || len(got) != bez.Pieces(l...) || got[len(got)-1] != l[len(l)-1] {
			t.Fatalf("curve of %v: %v, %v", l, got, e)
		}
		xs, ys := split(l)
		for _, p := range got {
			if p.X < slices.Min(xs) || p.X > slices.Max(xs) || p.Y < slices.Min(ys) || p.Y > slices.Max(ys) {
				t.Fatalf("curve of %v: %v is beyond it", l, p)
			}
		}
	}
}

// P11.3: a curve whose points are all one, or in one line with the grid, stays there.
func TestCurveStays(t *testing.T) {
	for _, n := range []int{-most, -1000, -1, 0, 1, 1000, most} {
		p := api.Point{X: n, Y: -n}
		lays(t, []api.Point{p, p, p}, []api.Point{p}, api.OK)
		lays(t, []api.Point{p, p, p, p}, []api.Point{p}, api.OK)
		for _, l := range [][]api.Point{
			{{X: n, Y: most}, {X: n, Y: -most}, {X: n, Y: 5}}, {{X: n, Y: most}, {X: n, Y: -most}, {X: n, Y: most}, {X: n}},
		} {
			got, e := lay(l)
			if e != api.OK || len(got) != pieces || slices.ContainsFunc(got, func(p api.Point) bool { return p.X != n }) {
				t.Errorf("curve of %v: %v, %v", l, got, e)
			}
		}
	}
}

// R3: each answer is new memory: what is done to one changes no other.
func TestCurveNew(t *testing.T) {
	for _, l := range [][]api.Point{
		{{X: 1, Y: 2}, {X: 3, Y: 4}, {X: 5, Y: 6}}, {{X: 1, Y: 200}, {X: 3, Y: 4}, {X: 5, Y: 6}}, {{X: 1, Y: 2}, {X: 300, Y: 4}, {X: 5, Y: 6}, {X: 7, Y: 8}},
	} {
		was := slices.Clone(l)
		got, _ := lay(l)
		for i := range got {
			got[i] = api.Point{X: 99, Y: 99}
		}
		_ = append(got, api.Point{X: 98})
		if !slices.Equal(l, was) {
			t.Errorf("curve of %v shares its points: %v", was, l)
		}
		curves(t, l)
	}
}
