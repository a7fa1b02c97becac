package gauge_test

import "testing"

// P14.2: by hand: halves go up, on both sides of 0.
func TestNearHand(t *testing.T) {
	for _, c := range []struct{ n, d, want int }{
		{0, 1, 0}, {0, 5, 0}, {1, 1, 1}, {-1, 1, -1}, {7, 1, 7}, {-7, 1, -7},
		{1, 2, 1}, {3, 2, 2}, {5, 2, 3}, {-1, 2, 0}, {-3, 2, -1}, {-5, 2, -2},
		{1, 3, 0}, {2, 3, 1}, {4, 3, 1}, {5, 3, 2}, {-1, 3, 0}, {-2, 3, -1}, {-4, 3, -1}, {-5, 3, -2},
		{1, 4, 0}, {2, 4, 1}, {3, 4, 1}, {6, 4, 2}, {-2, 4, 0}, {-3, 4, -1}, {-6, 4, -1}, {-7, 4, -2},
		{127, 256, 0}, {128, 256, 1}, {-128, 256, 0}, {-129, 256, -1},
	} {
		nearIs(t, c.n, c.d, c.want)
	}
}

// P14.2: all small quotients: none is further than a half, and a half is below.
func TestNearSmall(t *testing.T) {
	for n := -300; n <= 300; n++ {
		for d := 1; d <= 120; d++ {
			nearIs(t, n, d, near(whole(n), whole(d)))
		}
	}
}

// P14.2: at the limits and beyond, of both.
func TestNearLimits(t *testing.T) {
	for _, n := range ends {
		for _, d := range ends {
			nearIs(t, n, d, near(whole(n), whole(d)))
		}
	}
	nearIs(t, over, 1, over)
	nearIs(t, -over, 1, -over)
	nearIs(t, over+1, 1, 0)
	nearIs(t, -over-1, 1, 0)
	nearIs(t, over, under, 262144)
	nearIs(t, -over, under, -262144)
	nearIs(t, over, under+1, 0)
	nearIs(t, under/2, under, 1)
	nearIs(t, under/2-1, under, 0)
	nearIs(t, -under/2, under, 0)
	nearIs(t, -under/2-1, under, -1)
	nearIs(t, 5, 0, 0)
	nearIs(t, 5, -1, 0)
	nearIs(t, -5, -5, 0)
}

// P14.2: any quotients, against the chapter's words; and on both sides of any half.
func TestNearDice(t *testing.T) {
	d := dice(21)
	for range 50000 {
		by := 1 + d.roll([]int{3, 100, 70000, 1 << 30}[d.roll(4)])*(1+d.roll(4))
		n := d.size([]int{5, 1000, 1 << 29}[d.roll(3)]) * (1 + d.roll(1<<21))
		nearIs(t, n, by, near(whole(n), whole(by)))
		half := (2*d.size(1<<15) + 1) * by / 2
		for n := half - 1; n <= half+1; n++ {
			nearIs(t, n, by, near(whole(n), whole(by)))
		}
	}
}
