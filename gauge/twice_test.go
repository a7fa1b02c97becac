package gauge_test

import (
	"slices"
	"testing"

	"frisket/api"
	"frisket/gauge"
)

// all holds Twice and Round of points, and of the same turned round, begun at each of them, moved and led round, against what is wanted.
func all(t *testing.T, l []api.Point, want int) {
	t.Helper()
	twiceIs(t, l, want)
	twiceIs(t, reversed(l), -want)
	for i := range l {
		twiceIs(t, slices.Concat(l[i:], l[:i]), want)
	}
	var moved, led, over []api.Point
	for _, p := range l {
		moved = append(moved, pt(p.X-70001, p.Y+90002))
		led = append(led, pt(-p.Y, p.X))
		over = append(over, pt(p.Y, p.X))
	}
	twiceIs(t, moved, want)
	twiceIs(t, led, want)
	twiceIs(t, over, -want)
}

// P14.3: by hand.
func TestTwiceHand(t *testing.T) {
	for _, c := range []struct {
		l    []api.Point
		want int
	}{
		{nil, 0},
		{[]api.Point{}, 0},
		{[]api.Point{pt(3, 4)}, 0},
		{[]api.Point{pt(3, 4), pt(5, -9)}, 0},
		{[]api.Point{pt(0, 0), pt(1, 0), pt(0, 1)}, 1},
		{[]api.Point{pt(0, 0), pt(4, 0), pt(0, 4)}, 16},
		{[]api.Point{pt(0, 0), pt(1, 0), pt(1, 1), pt(0, 1)}, 2},
		{[]api.Point{pt(0, -2), pt(10, -2), pt(10, 2), pt(0, 2)}, 80},
		{[]api.Point{pt(0, 0), pt(5, 5), pt(9, 9)}, 0},
		{[]api.Point{pt(0, 0), pt(5, 0), pt(5, 5), pt(5, 0)}, 0},
		{[]api.Point{pt(0, 0), pt(4, 4), pt(0, 4), pt(4, 0)}, 0},                      // two that go round unlike ways
		{[]api.Point{pt(0, 0), pt(4, 0), pt(0, 4), pt(0, 0), pt(4, 0), pt(0, 4)}, 32}, // twice around
		{[]api.Point{pt(0, 0), pt(9, 0), pt(9, 9), pt(0, 9), pt(0, 5), pt(3, 5), pt(3, 2), pt(0, 2)}, 144}, // a bay
		{[]api.Point{pt(0, 0), pt(1, 0), pt(1, 0), pt(1, 1), pt(0, 1), pt(0, 1), pt(0, 0)}, 2},             // neighbours that are the same
	} {
		all(t, c.l, c.want)
	}
}

// P14.3: all rows of up to five of four points, against the chapter's words.
func TestTwiceSmall(t *testing.T) {
	few := []api.Point{pt(0, 0), pt(9, 1), pt(5, 6), pt(-2, 3)}
	for i := range 5 * 5 * 5 * 5 * 5 {
		var l []api.Point
		for n := i; n > 0; n /= 5 {
			if n%5 > 0 {
				l = append(l, few[n%5-1])
			}
		}
		all(t, l, twice(l))
	}
}

// P14.3: points at the limits: the greatest areas there are.
func TestTwiceLimits(t *testing.T) {
	square := []api.Point{pt(-most, -most), pt(most, -most), pt(most, most), pt(-most, most)}
	side := 2 * most
	twiceIs(t, square, 2*side*side)
	twiceIs(t, reversed(square), -2*side*side)
	l := limitPoints()
	for _, a := range l {
		for _, b := range l {
			row := []api.Point{a, b, pt(-most, most)}
			twiceIs(t, row, twice(row))
			row = append(row, pt(b.Y, a.X))
			twiceIs(t, row, twice(row))
		}
	}
}

// P14.3: as many points as there may be, the greatest area all around each time; and of more, of which nothing is told, what is 0 and stays.
func TestTwiceMany(t *testing.T) {
	square := []api.Point{pt(-most, -most), pt(most, -most), pt(most, most), pt(-most, most)}
	side := 2 * most
	l := slices.Repeat(square, pts/4)
	if len(l) != pts {
		t.Fatal(len(l))
	}
	twiceIs(t, l, pts/4*2*side*side)
	twiceIs(t, reversed(l), -pts/4*2*side*side)
	twiceIs(t, l[:pts-1], twice(l[:pts-1]))
	more := append(l, square[0])
	twiceIs(t, more, 0)
	twiceIs(t, reversed(more), 0)
	twiceIs(t, slices.Repeat(square, 100000), 0)
	row := make([]api.Point, pts)
	for i := range row {
		row[i] = pt(i*i%most, -i*37)
	}
	twiceIs(t, row, twice(row))
}

// P14.3: 0, where a point may not be, in each place; such points stay as they are.
func TestTwiceWrong(t *testing.T) {
	for _, p := range wrongPoints() {
		for many := range 5 {
			for at := range many + 1 {
				l := make([]api.Point, many)
				for i := range l {
					l[i] = pt(100*i*i, -3*i)
				}
				l = slices.Insert(l, at, p)
				twiceIs(t, l, 0)
				twiceIs(t, reversed(l), 0)
			}
		}
		twiceIs(t, []api.Point{p, p, p}, 0)
	}
}

// P14.3, P14.4: any points, against the chapter's words; what is turned round has the other area.
func TestTwiceDice(t *testing.T) {
	d := dice(32)
	below := 0
	for range 30000 {
		l := d.points(d.roll(9), []int{1, 3, 40, 90000, most, most + 1}[d.roll(6)])
		twiceIs(t, l, twice(l))
		turned := reversed(l)
		if a, b := gauge.Twice(l), gauge.Twice(turned); a != -b {
			t.Errorf("Twice(%v): %d, but turned round %d", l, a, b)
		}
		got := gauge.Round(l)
		if !slices.Equal(got, round(l)) || gauge.Twice(got) < 0 {
			t.Errorf("Round(%v): %v", l, got)
		}
		if twice(l) < 0 {
			below++
		}
	}
	if below < 5000 {
		t.Errorf("only %d went with the clock", below)
	}
}

// P14.3: by hand: what goes against the clock, or has no area, stays; what goes with it is turned round, its last point first.
func TestRoundHand(t *testing.T) {
	a, b, c, d := pt(0, 0), pt(4, 0), pt(4, 4), pt(0, 4)
	for _, x := range []struct{ l, want []api.Point }{
		{nil, nil},
		{[]api.Point{}, nil},
		{[]api.Point{a}, []api.Point{a}},
		{[]api.Point{b, a}, []api.Point{b, a}},
		{[]api.Point{a, b, c, d}, []api.Point{a, b, c, d}},
		{[]api.Point{d, c, b, a}, []api.Point{a, b, c, d}},
		{[]api.Point{a, d, c, b}, []api.Point{b, c, d, a}},
		{[]api.Point{c, b, a}, []api.Point{a, b, c}},
		{[]api.Point{b, c, a}, []api.Point{b, c, a}},
		{[]api.Point{a, c, b, d}, []api.Point{a, c, b, d}},
		{[]api.Point{c, b, pt(most+1, 0)}, []api.Point{c, b, pt(most+1, 0)}},
		{[]api.Point{a, pt(0, most+1), c}, []api.Point{a, pt(0, most+1), c}},
	} {
		if got := gauge.Round(x.l); !slices.Equal(got, x.want) {
			t.Errorf("Round(%v): %v, not %v", x.l, got, x.want)
		}
	}
}

// R3: Twice and Round leave what they are handed, and what lies behind it, as it was; what Round answers is new memory, be it turned round or not.
func TestRoundNew(t *testing.T) {
	for _, all := range [][]api.Point{
		{pt(0, 0), pt(4, 0), pt(4, 4), pt(0, 4), pt(-9, 9)}, {pt(0, 0), pt(0, 4), pt(4, 4), pt(4, 0), pt(9, -9)}, {pt(0, 0), pt(1, 1), pt(2, 2), pt(3, 3), pt(4, 4)},
	} {
		was := slices.Clone(all)
		for n := range len(all) {
			gauge.Twice(all[:n])
			got := gauge.Round(all[:n])
			if !slices.Equal(got, round(was[:n])) {
				t.Errorf("Round(%v): %v", was[:n], got)
			}
			for i := range got {
				got[i] = pt(99, 99)
			}
			_ = append(got, pt(98, 98))
			if !slices.Equal(all, was) {
				t.Fatalf("Twice or Round of the first %d changed %v to %v", n, was, all)
			}
		}
	}
}
