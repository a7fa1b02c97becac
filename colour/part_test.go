package colour_test

import (
	"math"
	"testing"

	"frisket/api"
	"frisket/colour"
)

// P8.1
func TestPart(t *testing.T) {
	for _, c := range []struct {
		n    int
		want uint8
	}{
		{0, 0}, {1, 0}, {127, 0}, {128, 1}, {254, 1}, {255, 1}, {256, 1}, {382, 1}, {383, 2}, {510, 2}, {32512, 127}, {32513, 128},
		{64770, 254}, {64897, 254}, {64898, 255}, {65024, 255}, {65025, 255},
		{-1, 0}, {-127, 0}, {-128, 0}, {-255, 0}, {-65025, 0}, {-65281, 0}, {math.MinInt, 0}, {math.MinInt + 1, 0}, {-1 << 32, 0}, {-1<<32 + 255, 0},
		{65026, 255}, {65152, 255}, {65153, 255}, {65280, 255}, {65535, 255}, {65536, 255}, {65407, 255}, {65408, 255}, {1 << 31, 255}, {1 << 32, 255}, {1<<32 + 255, 255}, {math.MaxInt - 127, 255}, {math.MaxInt - 126, 255}, {math.MaxInt - 1, 255}, {math.MaxInt, 255},
	} {
		if got := colour.Part(c.n); got != c.want {
			t.Errorf("Part(%d): %d, not %d", c.n, got, c.want)
		}
	}
}

// P8.1: each number that is asked for, and many on both sides.
func TestPartAll(t *testing.T) {
	for n := 0; n <= 65025; n++ {
		if got := colour.Part(n); int(got) != nearest(n) || got != by(n) {
			t.Fatalf("Part(%d): %d, not %d", n, got, nearest(n))
		}
	}
	for n := 1; n <= 200000; n++ {
		if got := colour.Part(-n); got != 0 {
			t.Fatalf("Part(%d): %d", -n, got)
		}
		if got := colour.Part(65025 + n); got != 255 {
			t.Fatalf("Part(%d): %d", 65025+n, got)
		}
	}
	for n := 1; n < math.MaxInt/2; n *= 2 {
		for near := -300; near <= 300; near++ {
			for _, m := range []int{n + near, near - n} {
				if got := colour.Part(m); got != by(m) {
					t.Fatalf("Part(%d): %d, not %d", m, got, by(m))
				}
			}
		}
	}
}

// P8.1
func TestTimes(t *testing.T) {
	for a := range 256 {
		for b := range 256 {
			if got := colour.Times(uint8(a), uint8(b)); got != by(a*b) {
				t.Fatalf("Times(%d, %d): %d, not %d", a, b, got, by(a*b))
			}
		}
	}
	for a := range 256 {
		n := uint8(a)
		if colour.Times(n, 255) != n || colour.Times(255, n) != n || colour.Times(n, 0) != 0 || colour.Times(0, n) != 0 {
			t.Errorf("Times of %d and all or nothing", n)
		}
	}
}

// P8.1: the chapter's example, and some more.
func TestWeigh(t *testing.T) {
	for _, c := range []struct{ c, want api.Colour }{
		{api.Colour{R: 255, G: 0, B: 0, A: 128}, api.Colour{R: 128, G: 0, B: 0, A: 128}},
		{api.Colour{R: 1, G: 2, B: 3, A: 255}, api.Colour{R: 1, G: 2, B: 3, A: 255}},
		{api.Colour{R: 1, G: 128, B: 255, A: 0}, api.Colour{}},
		{api.Colour{R: 127, G: 128, B: 255, A: 1}, api.Colour{R: 0, G: 1, B: 1, A: 1}},
		{api.Colour{R: 10, G: 20, B: 30, A: 40}, api.Colour{R: 2, G: 3, B: 5, A: 40}},
		{api.Colour{}, api.Colour{}},
	} {
		if got := colour.Weigh(c.c); got != c.want {
			t.Errorf("Weigh(%v): %v, not %v", c.c, got, c.want)
		}
	}
}

// P8.1, P8.4: each part with each cover, in each place.
func TestWeighAll(t *testing.T) {
	for part := range 256 {
		for cover := range 256 {
			n, a := uint8(part), uint8(cover)
			c := api.Colour{R: n, G: 255 - n, B: n ^ 85, A: a}
			want := api.Colour{R: by(int(c.R) * cover), G: by(int(c.G) * cover), B: by(int(c.B) * cover), A: a}
			got := colour.Weigh(c)
			if got != want {
				t.Fatalf("Weigh(%v): %v, not %v", c, got, want)
			}
			if !colour.May(got) {
				t.Fatalf("Weigh(%v): %v is not weighted", c, got)
			}
		}
	}
}

// P8.1
func TestMay(t *testing.T) {
	for _, c := range []struct {
		c    api.Colour
		want bool
	}{
		{api.Colour{}, true}, {api.Colour{R: 255, G: 255, B: 255, A: 255}, true}, {api.Colour{A: 255}, true}, {api.Colour{R: 9, G: 9, B: 9, A: 9}, true}, {api.Colour{R: 9, G: 8, B: 7, A: 10}, true},
		{api.Colour{R: 1}, false}, {api.Colour{G: 1}, false}, {api.Colour{B: 1}, false}, {api.Colour{R: 10, G: 9, B: 9, A: 9}, false}, {api.Colour{R: 9, G: 10, B: 9, A: 9}, false}, {api.Colour{R: 9, G: 9, B: 10, A: 9}, false}, {api.Colour{R: 255, G: 255, B: 255, A: 254}, false},
	} {
		if got := colour.May(c.c); got != c.want {
			t.Errorf("May(%v): %v", c.c, got)
		}
	}
	for _, c := range colours() {
		if got := colour.May(c); got != weighted(c) {
			t.Errorf("May(%v): %v", c, got)
		}
	}
	for part := range 256 {
		for cover := range 256 {
			n, a := uint8(part), uint8(cover)
			for _, c := range []api.Colour{{R: n, A: a}, {G: n, A: a}, {B: n, A: a}, {R: n, G: a, B: a, A: a}, {R: a, G: n, B: a, A: a}, {R: a, G: a, B: n, A: a}} {
				if got := colour.May(c); got != (part <= cover) {
					t.Fatalf("May(%v): %v", c, got)
				}
			}
		}
	}
}
