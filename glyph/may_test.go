package glyph_test

import (
	"math"
	"slices"
	"testing"

	"frisket/api"
)

// P13.1: the codes of the bytes that are to be seen.
func TestMayCode(t *testing.T) {
	for _, advance := range []int{0, 500} {
		for _, l := range [][]api.Step{nil, {}, {move(1, 2), shut()}} {
			for code := -3000; code <= 3000; code++ {
				mays(t, api.Glyph{Code: code, Advance: advance, Steps: l}, code >= 33 && code <= 126)
			}
			for _, code := range append([]int{1<<32 + 65, -1<<32 + 65, 1<<16 + 65, 256 + 65, 65 - 256}, far...) {
				mays(t, api.Glyph{Code: code, Advance: advance, Steps: l}, false)
			}
		}
	}
}

// P13.1: how far it leads on.
func TestMayAdvance(t *testing.T) {
	for _, n := range []int{0, 1, 2, 512, em, em + 1, 1 << 16, 1 << 20, most - 1, most} {
		mays(t, letter('a', n), true)
		mays(t, letter('a', n, move(most, -most), shut()), true)
		if n > 0 {
			mays(t, letter('a', -n), false)
		}
	}
	for _, n := range append([]int{-1, -2, -most}, far...) {
		mays(t, letter('!', n), false)
		mays(t, letter('~', n, move(0, 0), shut()), false)
	}
}

// P13.1: each of Trace's errors alone, and what has none.
func TestMaySteps(t *testing.T) {
	for _, l := range [][]api.Step{
		{move(0, 0)},
		{move(0, 0), move(5, 5)},
		{move(0, 0), step(2, pt(5, 0)), step(2, pt(5, 5)), shut()},
		{move(-most, most), step(3, pt(most, most), pt(-most, -most)), step(4, pt(1, 1), pt(2, 2), pt(3, 3))},
		{move(0, 0), shut(), move(0, 0), shut()},
		slices.Repeat([]api.Step{move(0, 0)}, steps-1),
		slices.Repeat([]api.Step{move(0, 0)}, steps),
		append([]api.Step{move(most, most)}, slices.Repeat([]api.Step{step(4, pt(most, 0), pt(-most, 0), pt(most, 0))}, steps-1)...),
	} {
		mays(t, letter('a', 7, l...), true)
	}
	for _, l := range [][]api.Step{
		slices.Repeat([]api.Step{move(0, 0)}, steps+1),
		slices.Repeat([]api.Step{move(0, 0)}, 1000*steps),
		{step(0)},
		{step(6)},
		{step(math.MaxInt)},
		{move(0, 0), step(-1)},
		{step(2, pt(5, 0))},
		{shut()},
		{move(0, 0), shut(), step(2, pt(5, 0))},
		{move(0, 0), shut(), shut()},
		{step(1, pt(most+1, 0))},
		{step(1, pt(0, -most-1))},
		{move(0, 0), step(2, pt(0, most+1))},
		{move(0, 0), step(3, pt(0, 0), pt(-most-1, 0))},
		{move(0, 0), step(4, pt(0, 0), pt(0, 0), pt(0, most+1))},
		{move(0, 0), step(2, pt(1, 1)), shut(), step(1, junk)},
	} {
		mays(t, letter('a', 7, l...), false)
	}
}

// P13.1: any glyphs, against the chapter's words.
func TestMayDice(t *testing.T) {
	d := dice(131)
	right := 0
	for range 20000 {
		g := api.Glyph{Code: 20 + d.roll(120), Advance: d.roll(most+most/4) - most/8, Steps: d.path(d.roll(8), most)}
		if d.roll(4) == 0 && len(g.Steps) > 0 {
			g.Steps[d.roll(len(g.Steps))].Op = d.roll(7)
		}
		if may(g) {
			right++
		}
		mays(t, g, may(g))
	}
	if right < 5000 || right > 15000 {
		t.Errorf("%d may be", right)
	}
}

// The limits are those of api.
func TestLimits(t *testing.T) {
	if api.MaxCoord != most || api.MaxSteps != steps || api.MaxWidth != widest || api.Em != em {
		t.Errorf("limits %d, %d, %d, %d", api.MaxCoord, api.MaxSteps, api.MaxWidth, api.Em)
	}
}
