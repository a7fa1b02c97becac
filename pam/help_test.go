package pam_test

import (
	"fmt"
	"math"
	"regexp"
	"slices"
	"strconv"
	"testing"

	"frisket/api"
	"frisket/pam"
)

// form is a file's lines, with what is behind them.
var form = regexp.MustCompile(`(?s)\AP7\nWIDTH ([1-9]|[1-5][0-9]|6[0-4])\nHEIGHT ([1-9]|[1-5][0-9]|6[0-4])\nDEPTH 4\nMAXVAL 255\nTUPLTYPE RGB_ALPHA\nENDHDR\n`)

// ends are numbers at the edges of what is asked, and far beyond.
var ends = []int{math.MinInt, math.MinInt + 1, -1 << 32, -1 << 31, -65, -64, -2, -1, 0, 1, 2, 63, 64, 65, 1 << 31, 1 << 32, 1 << 62, math.MaxInt - 1, math.MaxInt}

// lines answers the lines that are ahead of the colours of a raster of w times h.
func lines(w, h int) string {
	return fmt.Sprintf("P7\nWIDTH %d\nHEIGHT %d\nDEPTH 4\nMAXVAL 255\nTUPLTYPE RGB_ALPHA\nENDHDR\n", w, h)
}

// read answers what Read is to answer, by the chapter's words.
func read(b []byte) (api.Raster, api.Errno) {
	at := form.FindSubmatchIndex(b)
	if at == nil {
		return api.Raster{}, api.ErrForm
	}
	w, _ := strconv.Atoi(string(b[at[2]:at[3]]))
	h, _ := strconv.Atoi(string(b[at[4]:at[5]]))
	left := b[at[1]:]
	if len(left) < 4*w*h {
		return api.Raster{}, api.ErrShort
	}
	if len(left) > 4*w*h {
		return api.Raster{}, api.ErrRest
	}
	r := api.Raster{W: w, H: h}
	for len(left) > 0 {
		r.Pix = append(r.Pix, api.Colour{R: left[0], G: left[1], B: left[2], A: left[3]})
		left = left[4:]
	}
	return r, api.OK
}

// may answers what May is to answer, without a product of what may be great.
func may(r api.Raster) bool {
	if r.W < 1 || r.W > 64 || r.H < 1 || r.H > 64 {
		return false
	}
	left := len(r.Pix)
	for range r.H {
		left -= r.W
	}
	return left == 0
}

// same tells whether two rasters are the same, nil and empty lists being alike.
func same(a, b api.Raster) bool {
	return a.W == b.W && a.H == b.H && slices.Equal(a.Pix, b.Pix)
}

// empty tells whether nothing is in a raster.
func empty(r api.Raster) bool { return r.W == 0 && r.H == 0 && len(r.Pix) == 0 }

// told answers what a failing test tells of a raster.
func told(r api.Raster) string {
	pix := r.Pix
	if len(pix) > 6 {
		pix = pix[:6]
	}
	return fmt.Sprintf("%d times %d, %d colours (%v ..)", r.W, r.H, len(r.Pix), pix)
}

// reads holds what Read answers against the model; of what is read it tells, too, that it is written as it was.
func reads(t *testing.T, b []byte) {
	t.Helper()
	was := slices.Clone(b)
	got, e := pam.Read(b)
	want, wantE := read(was)
	if !same(got, want) || e != wantE {
		t.Errorf("Read of %d bytes (%.90q): %s, %v, not %s, %v", len(b), was, told(got), e, told(want), wantE)
	}
	if !slices.Equal(b, was) {
		t.Errorf("Read of %d bytes (%.90q) changed them", len(b), was)
	}
	if e != api.OK {
		return
	}
	if again, e := pam.Write(got); e != api.OK || !slices.Equal(again, was) {
		t.Errorf("Write of what was read of %.90q: %.90q, %v", was, again, e)
	}
}

// counted answers a raster of w times h whose colours are all unlike; w times h is below 65536.
func counted(w, h int) api.Raster {
	r := api.Raster{W: w, H: h}
	for i := range w * h {
		r.Pix = append(r.Pix, api.Colour{R: uint8(i), G: uint8(i >> 8), B: uint8(i * 7), A: uint8(255 - i)})
	}
	return r
}

// of answers a raster of w times h that has n colours, whether it may be or not.
func of(w, h, n int) api.Raster {
	r := counted(n, 1)
	r.W, r.H = w, h
	return r
}

// wrong are rasters that may not be.
func wrong() []api.Raster {
	return []api.Raster{
		{}, {Pix: []api.Colour{}}, of(0, 0, 1), of(0, 1, 0), of(1, 0, 0), of(0, 1, 1), of(1, 0, 1), of(1, 1, 0), of(1, 1, 2), of(2, 3, 5), of(2, 3, 7), of(2, 3, 0), of(3, 0, 3), of(0, 3, 3),
		of(-1, -1, 1), of(-2, -3, 6), of(-1, 1, 1), of(1, -1, 1), of(-1, 1, 0), of(2, -1, 0), of(-64, -64, 4096), of(-1, -4, 4),
		of(65, 1, 65), of(1, 65, 65), of(65, 65, 65*65), of(65, 64, 65*64), of(64, 65, 64*65), of(64, 64, 4095), of(64, 64, 4097), of(64, 1, 63), of(64, 1, 65), of(128, 32, 4096), of(32, 128, 4096), of(4096, 1, 4096), of(1, 4096, 4096),
		of(1<<32, 1<<32, 0), of(1<<62, 4, 0), of(4, 1<<62, 0), of(math.MinInt, math.MinInt, 0), of(math.MinInt, 2, 0), of(math.MaxInt, math.MaxInt, 1), of(math.MaxInt, 1, 1), of(1, math.MinInt, 1), of(1<<32+1, 1, 1), of(1, 1<<32+1, 1), of(1<<32+2, 1<<32+2, 4),
	}
}

// dice answers the same numbers each time.
type dice uint64

func (d *dice) roll(n int) int {
	*d = *d*6364136223846793005 + 1442695040888963407
	return int(*d>>33) % n
}

// raster answers any raster of w times h.
func (d *dice) raster(w, h int) api.Raster {
	r := api.Raster{W: w, H: h}
	for range w * h {
		n := d.roll(1 << 31)
		r.Pix = append(r.Pix, api.Colour{R: uint8(n), G: uint8(n >> 8), B: uint8(n >> 16), A: uint8(d.roll(256))})
	}
	return r
}
