package pam_test

import (
	"slices"
	"testing"

	"frisket/api"
	"frisket/pam"
)

// differs holds what Differ answers, both ways, against what is wanted.
func differs(t *testing.T, a, b api.Raster, x, y int, want bool) {
	t.Helper()
	wasA, wasB := slices.Clone(a.Pix), slices.Clone(b.Pix)
	for range 2 {
		if gotX, gotY, got := pam.Differ(a, b); gotX != x || gotY != y || got != want {
			t.Errorf("Differ of %s and %s: %d, %d, %v, not %d, %d, %v", told(a), told(b), gotX, gotY, got, x, y, want)
		}
		a, b = b, a
	}
	if !slices.Equal(a.Pix, wasA) || !slices.Equal(b.Pix, wasB) {
		t.Errorf("Differ changed %s or %s", told(a), told(b))
	}
}

// changed answers a raster with other colours at some places.
func changed(r api.Raster, at ...int) api.Raster {
	r.Pix = slices.Clone(r.Pix)
	for _, i := range at {
		r.Pix[i].B ^= 1
	}
	return r
}

// P9.3: each place alone, and the first one of two.
func TestDiffer(t *testing.T) {
	for _, r := range []api.Raster{counted(5, 3), counted(3, 5), counted(1, 6), counted(6, 1), counted(1, 1)} {
		differs(t, r, r, 0, 0, false)
		differs(t, r, changed(r), 0, 0, false)
		for i := range r.Pix {
			differs(t, r, changed(r, i), i%r.W, i/r.W, true)
			for k := i + 1; k < len(r.Pix); k++ {
				differs(t, r, changed(r, k, i), i%r.W, i/r.W, true)
				differs(t, changed(r, i), changed(r, k), i%r.W, i/r.W, true)
			}
		}
	}
	big := counted(64, 64)
	differs(t, big, changed(big), 0, 0, false)
	differs(t, big, changed(big, 4095), 63, 63, true)
	differs(t, big, changed(big, 4095, 64), 0, 1, true)
	differs(t, big, changed(big, 64, 63), 63, 0, true)
}

// P9.3: colours that are unlike in one part are unlike, though they cover nothing.
func TestDifferParts(t *testing.T) {
	a := pam.Blank(2, 2)
	for _, c := range []api.Colour{{R: 1}, {G: 1}, {B: 1}, {A: 1}, {R: 255}, {G: 128}, {B: 2}, {A: 255}} {
		b := pam.Blank(2, 2)
		b.Pix[2] = c
		differs(t, a, b, 0, 1, true)
	}
}

// P9.3: rasters of unlike sizes, though they have the same colours.
func TestDifferSizes(t *testing.T) {
	for _, c := range [][2]api.Raster{
		{counted(2, 3), counted(3, 2)}, {counted(1, 6), counted(6, 1)}, {counted(2, 3), counted(1, 6)}, {counted(2, 3), counted(2, 2)}, {counted(2, 3), counted(2, 4)}, {counted(2, 3), counted(1, 3)}, {counted(2, 3), counted(3, 3)}, {counted(64, 64), counted(64, 63)},
		{pam.Blank(2, 2), pam.Blank(4, 1)}, {pam.Blank(1, 1), pam.Blank(1, 2)}, {pam.Blank(1, 1), {}},
	} {
		differs(t, c[0], c[1], 0, 0, true)
	}
}

// P9.3: rasters that may not be, each with each, and with such as may.
func TestDifferWrong(t *testing.T) {
	all := append(wrong(), counted(1, 1), counted(2, 3), counted(64, 64))
	for _, a := range all {
		for _, b := range all {
			differs(t, a, b, 0, 0, !same(a, b))
		}
	}
	for _, r := range wrong() {
		differs(t, r, changed(r), 0, 0, false)
		for i := range min(len(r.Pix), 5) {
			differs(t, r, changed(r, i), 0, 0, true)
			differs(t, r, changed(r, len(r.Pix)-1-i), 0, 0, true)
		}
	}
}

// P9.3: one is short of colours, or has some more, behind the same ones; nil and empty lists are alike.
func TestDifferShort(t *testing.T) {
	r := counted(2, 3)
	differs(t, r, of(2, 3, 5), 0, 0, true)
	differs(t, r, of(2, 3, 7), 0, 0, true)
	differs(t, of(2, 3, 5), of(2, 3, 7), 0, 0, true)
	differs(t, of(2, 3, 5), of(3, 2, 5), 0, 0, true)
	differs(t, of(2, 3, 5), of(2, 4, 5), 0, 0, true)
	differs(t, of(2, 3, 5), of(1, 3, 5), 0, 0, true)
	differs(t, of(0, 3, 5), of(0, 3, 5), 0, 0, false)
	differs(t, api.Raster{}, api.Raster{Pix: []api.Colour{}}, 0, 0, false)
	differs(t, api.Raster{W: 2, H: 2}, api.Raster{W: 2, H: 2, Pix: []api.Colour{}}, 0, 0, false)
	differs(t, api.Raster{W: 2, H: 2}, api.Raster{W: 2, H: 3}, 0, 0, true)
	differs(t, api.Raster{W: 2, H: 2}, api.Raster{W: 3, H: 2}, 0, 0, true)
}
