package spot

import (
	"strings"

	"frisket/api"
	"frisket/frac"
)

const blank = " "

// Text answers a spot as a text.
func Text(a api.Spot) string {
	return frac.Text(a.X) + blank + frac.Text(a.Y)
}

// Parse answers the spot of a text.
func Parse(s string) (api.Spot, api.Errno) {
	before, behind, parted := strings.Cut(s, blank)
	if !parted {
		return api.Spot{}, api.ErrForm
	}
	x, e := frac.Parse(before)
	if e != api.OK {
		return api.Spot{}, e
	}
	y, e := frac.Parse(behind)
	if e != api.OK {
		return api.Spot{}, e
	}
	return api.Spot{X: x, Y: y}, api.OK
}
