package glyph_test

import (
	"math"
	"slices"
	"testing"

	"frisket/api"
	"frisket/glyph"
)

// P13.1: by hand: the first one of a code, in each place.
func TestFindHand(t *testing.T) {
	a, b, a2 := dot('a', 1, 2, 3), letter('b', 4), dot('a', 5, 6, 7)
	none := api.Glyph{}
	finds(t, []api.Glyph{a, b, a2}, 'a', a, true)
	finds(t, []api.Glyph{a2, b, a}, 'a', a2, true)
	finds(t, []api.Glyph{b, a2, a}, 'a', a2, true)
	finds(t, []api.Glyph{b, b, b, a}, 'a', a, true)
	finds(t, []api.Glyph{a, b, a2}, 'b', b, true)
	finds(t, []api.Glyph{a, b, a2}, 'c', none, false)
	finds(t, []api.Glyph{a, a}, 'b', none, false)
	for _, code := range append([]int{0, -1, 33, 65, 97, 126}, far...) {
		finds(t, nil, code, none, false)
		finds(t, []api.Glyph{}, code, none, false)
	}
}

// P13.1: a code is a whole number, of any size, and no other one is taken for it.
func TestFindCode(t *testing.T) {
	codes := append([]int{97, 97 + 256, 97 - 256, 97 + 1<<16, 97 + 1<<32, 97 - 1<<32, -97, 0, 1, -1, 33, 32, 126, 127, 128, 255}, far...)
	var font []api.Glyph
	for i, code := range codes {
		finds(t, font, code, api.Glyph{}, false)
		font = append(font, api.Glyph{Code: code, Advance: i, Steps: []api.Step{move(i, -i)}})
	}
	for i, code := range codes {
		finds(t, font, code, font[i], true)
		if slices.Index(codes, code+1) < 0 {
			finds(t, font, code+1, api.Glyph{}, false)
		}
		font[i] = letter('a', 999)
		if code != 97 {
			finds(t, font, code, api.Glyph{}, false)
		}
	}
}

// P13.1: one that may not be is found, too, with all that it has, ahead of one that may be.
func TestFindAny(t *testing.T) {
	for _, g := range []api.Glyph{
		letter('a', -1), letter('a', math.MinInt), letter('a', most+1),
		letter('a', 1, step(9, junk, junk, junk)), letter('a', 1, shut()), letter('a', 1, slices.Repeat([]api.Step{move(1, 1)}, 10*steps)...),
		{}, {Advance: 7}, {Code: -5, Advance: -5, Steps: []api.Step{{}}},
	} {
		finds(t, []api.Glyph{letter('b', 2), g, letter('a', 3)}, g.Code, g, true)
	}
}

// P13.1: any fonts, against the chapter's words.
func TestFindDice(t *testing.T) {
	d := dice(132)
	for range 20000 {
		font := make([]api.Glyph, d.roll(8))
		for i := range font {
			font[i] = api.Glyph{Code: d.roll(6), Advance: d.roll(1000), Steps: d.path(d.roll(3), 50)}
		}
		code := d.roll(8) - 1
		want, ok := find(font, code)
		finds(t, font, code, want, ok)
	}
}

// R3: what is found is new memory.
func TestFindNew(t *testing.T) {
	font := []api.Glyph{letter('a', 1, move(1, 2), step(2, pt(3, 4)), shut())}
	font[0].Steps = font[0].Steps[:2] // there is room behind them
	was := copied(font)
	got, _ := glyph.Find(font, 'a')
	got.Steps[0] = move(9, 9)
	_ = append(got.Steps, move(8, 8))
	left(t, font, was)
	if s := font[0].Steps[:3][2]; s != shut() {
		t.Errorf("what is behind the steps is %v", s)
	}
}
