package pam

import (
	"bytes"

	"frisket/api"
	"frisket/figure"
)

// heads are what the lines of a file begin with, one behind the other: behind a side's stands the side, behind the others nothing.
var heads = [...]string{"P7", "WIDTH ", "HEIGHT ", "DEPTH 4", "MAXVAL 255", "TUPLTYPE RGB_ALPHA", "ENDHDR"}

// The places of the sides' lines.
const (
	widthLine  = 1
	heightLine = 2
)

const (
	end   = '\n' // what stands behind a line
	parts = 4    // bytes of a colour
)

// Write answers a raster's file.
func Write(r api.Raster) ([]byte, api.Errno) {
	if !May(r) {
		return nil, api.ErrArg
	}
	out := header(r.W, r.H)
	for _, c := range r.Pix {
		out = append(out, c.R, c.G, c.B, c.A)
	}
	return out, api.OK
}

// header answers the lines of the file of a raster of w times h.
func header(w, h int) []byte {
	var out []byte
	for i, head := range heads {
		out = append(out, head...)
		switch i {
		case widthLine:
			out = append(out, figure.Num(w)...)
		case heightLine:
			out = append(out, figure.Num(h)...)
		}
		out = append(out, end)
	}
	return out
}

// Read answers the raster of a file.
func Read(b []byte) (api.Raster, api.Errno) {
	w, h, pix, ok := split(b)
	if !ok {
		return api.Raster{}, api.ErrForm
	}
	out := Blank(w, h)
	switch need := parts * len(out.Pix); {
	case len(pix) < need:
		return api.Raster{}, api.ErrShort
	case len(pix) > need:
		return api.Raster{}, api.ErrRest
	}
	for i := range out.Pix {
		p := pix[parts*i:]
		out.Pix[i] = api.Colour{R: p[0], G: p[1], B: p[2], A: p[3]}
	}
	return out, api.OK
}

// split answers the sides that a file's lines tell, and the bytes behind these; false, where the file doesn't begin with such lines.
func split(b []byte) (w, h int, pix []byte, ok bool) {
	held := 0
lines:
	for i := range len(heads) {
		line, behind, ended := bytes.Cut(b, []byte{end})
		told, begun := bytes.CutPrefix(line, []byte(heads[i]))
		if !ended || !begun {
			break lines
		}
		switch i {
		case widthLine:
			if w = side(told); w == 0 {
				break lines
			}
		case heightLine:
			if h = side(told); h == 0 {
				break lines
			}
		default:
			if len(told) > 0 {
				break lines
			}
		}
		held, b = held+1, behind
	}
	if held < len(heads) {
		return 0, 0, nil, false
	}
	return w, h, b, true
}

// side answers the side that is told behind a line's beginning; 0, where none is.
func side(told []byte) int {
	n, _ := figure.Read(string(told), 1, api.MaxPage) // beside an error n is 0, too
	return n
}
