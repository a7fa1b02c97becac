package pam_test

import (
	"math"
	"slices"
	"testing"

	"frisket/api"
	"frisket/pam"
)

// P9.1: sides and colours at their edges.
func TestMay(t *testing.T) {
	for _, r := range []api.Raster{of(1, 1, 1), of(2, 3, 6), of(3, 2, 6), of(64, 64, 4096), of(64, 1, 64), of(1, 64, 64), of(63, 64, 63*64)} {
		if !pam.May(r) {
			t.Errorf("May of %s: false", told(r))
		}
	}
	for _, r := range wrong() {
		if pam.May(r) {
			t.Errorf("May of %s: true", told(r))
		}
	}
}

// P9.1: each two sides, with as many colours as there are to be, one less and one more; a list with room behind its colours has no more for that.
func TestMayAll(t *testing.T) {
	all := counted(67*67, 1).Pix
	for w := -3; w < 67; w++ {
		for h := -3; h < 67; h++ {
			for n := max(w*h-1, 0); n <= max(w*h+1, 0); n++ {
				r := api.Raster{W: w, H: h, Pix: all[:n]}
				if got := pam.May(r); got != may(r) {
					t.Fatalf("May of %s: %v", told(r), got)
				}
			}
		}
	}
	for _, w := range ends {
		for _, h := range ends {
			for n := range 5 {
				r := api.Raster{W: w, H: h, Pix: all[:n]}
				if got := pam.May(r); got != may(r) {
					t.Errorf("May of %s: %v", told(r), got)
				}
			}
		}
	}
}

// P9.1
func TestBlank(t *testing.T) {
	blank := func(w, h int) {
		got := pam.Blank(w, h)
		if w < 1 || w > 64 || h < 1 || h > 64 {
			if !empty(got) {
				t.Errorf("Blank(%d, %d): %s", w, h, told(got))
			}
			return
		}
		if got.W != w || got.H != h || len(got.Pix) != w*h || !pam.May(got) {
			t.Errorf("Blank(%d, %d): %s", w, h, told(got))
		}
		for _, c := range got.Pix {
			if c != (api.Colour{}) {
				t.Errorf("Blank(%d, %d) has %v", w, h, c)
			}
		}
	}
	for w := -2; w < 68; w++ {
		for h := -2; h < 68; h++ {
			blank(w, h)
		}
	}
	for _, w := range ends {
		for _, h := range ends {
			blank(w, h)
		}
	}
}

// R3: each blank raster has colours of its own.
func TestBlankNew(t *testing.T) {
	first := pam.Blank(3, 2)
	first.Pix[4] = api.Colour{R: 9, A: 9}
	if second := pam.Blank(3, 2); !slices.Equal(second.Pix, make([]api.Colour, 6)) {
		t.Errorf("Blank(3, 2) has %v", second.Pix)
	}
}

// P9.1: each place, and places around.
func TestAt(t *testing.T) {
	for _, r := range []api.Raster{counted(5, 3), counted(3, 5), counted(1, 1), counted(1, 7), counted(7, 1), counted(64, 64)} {
		for y := -3; y < r.H+3; y++ {
			for x := -3; x < r.W+3; x++ {
				want, there := api.Colour{}, x >= 0 && x < r.W && y >= 0 && y < r.H
				if there {
					want = r.Pix[y*r.W+x]
				}
				if got, ok := pam.At(r, x, y); got != want || ok != there {
					t.Fatalf("At(%s, %d, %d): %v, %v, not %v, %v", told(r), x, y, got, ok, want, there)
				}
			}
		}
	}
}

// P9.1: the row of Y 0 is the first one.
func TestAtRows(t *testing.T) {
	a, b, c, d := api.Colour{R: 1}, api.Colour{R: 2}, api.Colour{R: 3}, api.Colour{R: 4}
	r := api.Raster{W: 2, H: 2, Pix: []api.Colour{a, b, c, d}}
	for i, want := range []api.Colour{a, b, c, d} {
		if got, ok := pam.At(r, i%2, i/2); got != want || !ok {
			t.Errorf("At(%d, %d): %v, %v, not %v", i%2, i/2, got, ok, want)
		}
	}
}

// P9.1: what isn't there, far away, and of rasters that may not be.
func TestAtNone(t *testing.T) {
	none := func(r api.Raster, x, y int) {
		if got, ok := pam.At(r, x, y); got != (api.Colour{}) || ok {
			t.Errorf("At(%s, %d, %d): %v, %v", told(r), x, y, got, ok)
		}
	}
	for _, r := range wrong() {
		for y := -1; y < 4; y++ {
			for x := -1; x < 4; x++ {
				none(r, x, y)
			}
		}
	}
	r := counted(4, 3)
	for _, n := range ends {
		if n < 0 || n > 3 {
			none(r, n, 0)
			none(r, 0, n)
			none(r, 1, n)
			none(r, n, n)
			none(r, n, -n)
		}
	}
}

// crop answers what Crop is to answer of a raster that may be: it asks for each colour by itself.
func crop(r api.Raster, x, y, w, h int) (api.Raster, api.Errno) {
	if x < 0 || y < 0 || w < 1 || h < 1 || x > r.W || y > r.H || w > r.W || h > r.H || x+w > r.W || y+h > r.H {
		return api.Raster{}, api.ErrArg
	}
	out := api.Raster{W: w, H: h}
	for i := range w * h {
		out.Pix = append(out.Pix, r.Pix[(y+i/w)*r.W+x+i%w])
	}
	return out, api.OK
}

// P9.1: each part, and such as aren't there.
func TestCrop(t *testing.T) {
	for _, r := range []api.Raster{counted(5, 4), counted(4, 5), counted(1, 1), counted(1, 4), counted(4, 1)} {
		was := slices.Clone(r.Pix)
		for i := range 9 * 9 * 9 * 9 {
			x, y, w, h := i%9-2, i/9%9-2, i/81%9-1, i/729-1
			got, e := pam.Crop(r, x, y, w, h)
			want, wantE := crop(r, x, y, w, h)
			if !same(got, want) || e != wantE {
				t.Fatalf("Crop(%s, %d, %d, %d, %d): %s, %v, not %s, %v", told(r), x, y, w, h, told(got), e, told(want), wantE)
			}
		}
		if !slices.Equal(r.Pix, was) {
			t.Errorf("Crop changed %s", told(r))
		}
	}
}

// P9.1: any parts of any rasters.
func TestCropDice(t *testing.T) {
	d := dice(21)
	for range 300 {
		r := d.raster(1+d.roll(64), 1+d.roll(64))
		for range 60 {
			x, y, w, h := d.roll(r.W+2)-1, d.roll(r.H+2)-1, d.roll(r.W+2), d.roll(r.H+2)
			got, e := pam.Crop(r, x, y, w, h)
			want, wantE := crop(r, x, y, w, h)
			if !same(got, want) || e != wantE {
				t.Fatalf("Crop(%s, %d, %d, %d, %d): %s, %v, not %s, %v", told(r), x, y, w, h, told(got), e, told(want), wantE)
			}
		}
		if got, e := pam.Crop(r, 0, 0, r.W, r.H); !same(got, r) || e != api.OK {
			t.Fatalf("Crop of all of %s: %s, %v", told(r), told(got), e)
		}
	}
}

// P9.1: rasters that may not be, though their part would be there; and numbers whose sums are too great.
func TestCropWrong(t *testing.T) {
	fails := func(r api.Raster, x, y, w, h int) {
		if got, e := pam.Crop(r, x, y, w, h); !empty(got) || e != api.ErrArg {
			t.Errorf("Crop(%s, %d, %d, %d, %d): %s, %v", told(r), x, y, w, h, told(got), e)
		}
	}
	for _, r := range wrong() {
		fails(r, 0, 0, 1, 1)
		fails(r, 0, 0, 0, 0)
		fails(r, 0, 0, r.W, r.H)
		fails(r, 1, 0, 1, 1)
		fails(r, 0, -1, 1, 1)
	}
	r := counted(4, 3)
	for _, n := range ends {
		for _, m := range ends {
			if _, e := crop(r, 0, 0, n, m); e != api.OK {
				fails(r, 0, 0, n, m)
			}
			if n != 0 && n != 1 && n != 2 || m != 1 && m != 2 {
				fails(r, n, 0, m, 1)
				fails(r, 0, n, 1, m)
			}
		}
	}
	fails(r, math.MaxInt, 0, 1, 1)
	fails(r, 1, 0, math.MaxInt, 1)
	fails(r, 0, math.MaxInt, 1, 1)
	fails(r, 0, 1, 1, math.MaxInt)
	fails(r, math.MinInt, 0, math.MinInt, 1)
	fails(r, math.MinInt, math.MinInt, math.MaxInt, math.MaxInt)
	fails(r, -1, -1, 2, 2)
	fails(r, 4, 3, 0, 0)
	fails(r, 0, 0, -4, -3)
}

// R3: a part shares nothing with what it was cut from.
func TestCropNew(t *testing.T) {
	r := counted(4, 3)
	was := slices.Clone(r.Pix)
	for _, at := range [][4]int{{0, 0, 4, 3}, {1, 1, 2, 2}, {0, 2, 4, 1}, {3, 0, 1, 3}} {
		got, e := pam.Crop(r, at[0], at[1], at[2], at[3])
		if e != api.OK {
			t.Fatal(e)
		}
		for i := range got.Pix {
			got.Pix[i] = api.Colour{R: 200, G: 201, B: 202, A: 203}
		}
		_ = append(got.Pix, api.Colour{R: 204})
		if !slices.Equal(r.Pix, was) {
			t.Fatalf("Crop of %v shares colours with its raster", at)
		}
	}
}

// R1, R3: rasters that may not be are left alone by every call.
func TestWrongLeft(t *testing.T) {
	for _, r := range wrong() {
		was := slices.Clone(r.Pix)
		pam.May(r)
		pam.At(r, 0, 0)
		pam.Crop(r, 0, 0, 1, 1)
		pam.Write(r)
		pam.Differ(r, r)
		if !slices.Equal(r.Pix, was) {
			t.Errorf("%s was changed", told(r))
		}
	}
}
