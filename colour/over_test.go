package colour_test

import (
	"testing"

	"frisket/api"
	"frisket/colour"
)

// P8.2: the chapter's example, and some more, among them such as are not weighted.
func TestOver(t *testing.T) {
	for _, c := range []struct{ c, d, want api.Colour }{
		{api.Colour{R: 128, A: 128}, api.Colour{B: 255, A: 255}, api.Colour{R: 128, B: 127, A: 255}},
		{api.Colour{B: 255, A: 255}, api.Colour{R: 128, A: 128}, api.Colour{B: 255, A: 255}},
		{api.Colour{}, api.Colour{R: 1, G: 2, B: 3, A: 4}, api.Colour{R: 1, G: 2, B: 3, A: 4}},
		{api.Colour{R: 1, G: 2, B: 3, A: 4}, api.Colour{}, api.Colour{R: 1, G: 2, B: 3, A: 4}},
		{api.Colour{R: 10, G: 20, B: 30, A: 51}, api.Colour{R: 40, G: 50, B: 60, A: 100}, api.Colour{R: 42, G: 60, B: 78, A: 131}},
		{api.Colour{R: 200, G: 255, B: 1, A: 0}, api.Colour{R: 100, G: 255, B: 254, A: 7}, api.Colour{R: 255, G: 255, B: 255, A: 7}},
		{api.Colour{R: 255, G: 254, B: 253, A: 254}, api.Colour{R: 255, G: 255, B: 255, A: 255}, api.Colour{R: 255, G: 255, B: 254, A: 255}},
	} {
		if got := colour.Over(c.c, c.d); got != c.want {
			t.Errorf("Over(%v, %v): %v, not %v", c.c, c.d, got, c.want)
		}
	}
}

// P8.2: each part over each part, with each cover.
func TestOverAll(t *testing.T) {
	by := products()
	for cover := range 256 {
		a := uint8(cover)
		left := by[255-cover]
		for upper := range 256 {
			for lower := 0; lower < 256; lower++ {
				c := api.Colour{R: uint8(upper), G: uint8(lower), B: ^uint8(upper), A: a}
				d := api.Colour{R: uint8(lower), G: uint8(upper), B: uint8(lower + 1), A: uint8(upper)}
				want := api.Colour{R: capped(c.R, left[d.R]), G: capped(c.G, left[d.G]), B: capped(c.B, left[d.B]), A: capped(c.A, left[d.A])}
				if got := colour.Over(c, d); got != want {
					t.Fatalf("Over(%v, %v): %v, not %v", c, d, got, want)
				}
			}
		}
	}
}

// P8.2: colours of parts at their edges, each over each.
func TestOverEdges(t *testing.T) {
	by := products()
	all := colours()
	for i, c := range all {
		left := by[255-c.A]
		for k := i % 7; k < len(all); k += 7 {
			d := all[k]
			want := api.Colour{R: capped(c.R, left[d.R]), G: capped(c.G, left[d.G]), B: capped(c.B, left[d.B]), A: capped(c.A, left[d.A])}
			if got := colour.Over(c, d); got != want {
				t.Fatalf("Over(%v, %v): %v, not %v", c, d, got, want)
			}
		}
	}
}

// P8.4: what is put together of weighted colours is weighted.
func TestOverWeighted(t *testing.T) {
	d := dice(5)
	for range 200000 {
		upper, lower := d.weighted(), d.weighted()
		if got := colour.Over(upper, lower); !weighted(got) {
			t.Fatalf("Over(%v, %v): %v is not weighted", upper, lower, got)
		}
	}
	for a := range 256 {
		for b := range 256 {
			upper, lower := api.Colour{R: uint8(a), A: uint8(a)}, api.Colour{R: uint8(b), G: uint8(b), A: uint8(b)}
			if got := colour.Over(upper, lower); !weighted(got) || got.R != got.A {
				t.Fatalf("Over(%v, %v): %v", upper, lower, got)
			}
		}
	}
}

// P8.4: what covers all is what is seen, and what covers nothing changes nothing.
func TestOverEnds(t *testing.T) {
	d := dice(6)
	for range 50000 {
		c, all := d.colour(), d.colour()
		all.A = 255
		if got := colour.Over(all, c); got != all {
			t.Fatalf("Over(%v, %v): %v", all, c, got)
		}
		if got := colour.Over(api.Colour{}, c); got != c {
			t.Fatalf("Over of nothing and %v: %v", c, got)
		}
		if got := colour.Over(c, api.Colour{}); got != c {
			t.Fatalf("Over(%v) and nothing: %v", c, got)
		}
	}
}

// P8.2
func TestFade(t *testing.T) {
	for _, c := range []struct {
		c    api.Colour
		n    uint8
		want api.Colour
	}{
		{api.Colour{R: 10, G: 20, B: 30, A: 40}, 255, api.Colour{R: 10, G: 20, B: 30, A: 40}},
		{api.Colour{R: 10, G: 20, B: 30, A: 40}, 0, api.Colour{}},
		{api.Colour{R: 10, G: 20, B: 30, A: 40}, 128, api.Colour{R: 5, G: 10, B: 15, A: 20}},
		{api.Colour{R: 255, G: 254, B: 127, A: 255}, 1, api.Colour{R: 1, G: 1, B: 0, A: 1}},
		{api.Colour{R: 255, G: 1, B: 0, A: 0}, 127, api.Colour{R: 127, G: 0, B: 0, A: 0}},
	} {
		if got := colour.Fade(c.c, c.n); got != c.want {
			t.Errorf("Fade(%v, %d): %v, not %v", c.c, c.n, got, c.want)
		}
	}
}

// P8.2, P8.4: each part in each place, faded by each number.
func TestFadeAll(t *testing.T) {
	by := products()
	d := dice(7)
	for part := range 256 {
		for n := range 256 {
			p := uint8(part)
			c := api.Colour{R: p, G: p + 64, B: p + 128, A: p + 192}
			f := by[n]
			want := api.Colour{R: f[c.R], G: f[c.G], B: f[c.B], A: f[c.A]}
			if got := colour.Fade(c, uint8(n)); got != want {
				t.Fatalf("Fade(%v, %d): %v, not %v", c, n, got, want)
			}
			w := d.weighted()
			if got := colour.Fade(w, uint8(n)); !weighted(got) {
				t.Fatalf("Fade(%v, %d): %v is not weighted", w, n, got)
			}
		}
	}
}

// P8.2
func TestMix(t *testing.T) {
	c, d := api.Colour{R: 0, G: 255, B: 100, A: 7}, api.Colour{R: 255, G: 0, B: 100, A: 9}
	for _, m := range []struct {
		n    uint8
		want api.Colour
	}{
		{0, c}, {255, d}, {1, api.Colour{R: 1, G: 254, B: 100, A: 7}}, {254, api.Colour{R: 254, G: 1, B: 100, A: 9}}, {127, api.Colour{R: 127, G: 128, B: 100, A: 8}}, {128, api.Colour{R: 128, G: 127, B: 100, A: 8}}, {63, api.Colour{R: 63, G: 192, B: 100, A: 7}}, {64, api.Colour{R: 64, G: 191, B: 100, A: 8}},
	} {
		if got := colour.Mix(c, d, m.n); got != m.want {
			t.Errorf("Mix(%v, %v, %d): %v, not %v", c, d, m.n, got, m.want)
		}
	}
	// Each end's part would go by itself: both together are a whole 1.
	if got := colour.Mix(api.Colour{R: 1, A: 1}, api.Colour{R: 1, A: 1}, 127); got != (api.Colour{R: 1, A: 1}) {
		t.Errorf("Mix of a colour with itself: %v", got)
	}
}

// P8.2: each part with each part, by each number.
func TestMixAll(t *testing.T) {
	var by255 [65026]uint8
	for n := range by255 {
		by255[n] = by(n)
	}
	for n := range 256 {
		mix := func(a, b uint8) uint8 { return by255[int(a)*(255-n)+int(b)*n] }
		for a := range 256 {
			for b := 0; b < 256; b++ {
				c := api.Colour{R: uint8(a), G: uint8(b), B: uint8(a + 1), A: uint8(b)}
				d := api.Colour{R: uint8(b), G: uint8(a), B: uint8(b), A: ^uint8(a)}
				want := api.Colour{R: mix(c.R, d.R), G: mix(c.G, d.G), B: mix(c.B, d.B), A: mix(c.A, d.A)}
				if got := colour.Mix(c, d, uint8(n)); got != want {
					t.Fatalf("Mix(%v, %v, %d): %v, not %v", c, d, n, got, want)
				}
			}
		}
	}
}

// P8.2: at both ends a way's colours are its ends, and a colour's way to itself is itself.
func TestMixEnds(t *testing.T) {
	dd := dice(8)
	for range 50000 {
		c, d, n := dd.colour(), dd.colour(), dd.part()
		if got := colour.Mix(c, d, 0); got != c {
			t.Fatalf("Mix(%v, %v, 0): %v", c, d, got)
		}
		if got := colour.Mix(c, d, 255); got != d {
			t.Fatalf("Mix(%v, %v, 255): %v", c, d, got)
		}
		if got := colour.Mix(c, c, n); got != c {
			t.Fatalf("Mix(%v, itself, %d): %v", c, n, got)
		}
		if colour.Mix(c, d, n) != colour.Mix(d, c, 255-n) {
			t.Fatalf("Mix(%v, %v, %d) is another one from behind", c, d, n)
		}
	}
}
