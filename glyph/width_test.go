package glyph_test

import (
	"slices"
	"strings"
	"testing"

	"frisket/api"
)

// P13.3: the chapter's example, and others by hand.
func TestWidthHand(t *testing.T) {
	font := []api.Glyph{letter('a', 512), letter('b', 1), letter('c', 0), letter('d', 341), letter('a', 7)}
	for _, x := range []struct {
		text       string
		size, want int
	}{
		{"aa", 100, 100}, {"a", 100, 50}, {"a", 1, 1}, {"aa", 1, 1}, {"aaa", 1, 2}, {"", 100, 0}, {"", 1, 0}, {"c", widest, 0}, {"ccc", 5, 0},
		{"b", 511, 0}, {"b", 512, 1}, {"bb", 511, 1}, {"bbb", 511, 1}, {"bbb", 512, 2}, {"b", widest, 64}, {"b", em, 1}, {"bcb", em, 2},
		{"d", 1, 0}, {"dd", 1, 1}, {"ddd", 1, 1}, {"dddd", 1, 1}, {"ddddd", 1, 2}, {"ad", 3, 2}, {"abcd", 2 * em, 1708},
	} {
		spans(t, font, x.text, x.size, x.want, api.OK)
	}
}

// P13.3: all are added up ahead of being rounded, once.
func TestWidthOnce(t *testing.T) {
	for advance := range 40 {
		for n := range 40 {
			for _, size := range []int{1, 13, 26, 256, 512, 513, 1023, widest} {
				spans(t, []api.Glyph{letter('a', advance), letter('b', 3)}, strings.Repeat("a", n)+"b", size, near(n*advance+3, size), api.OK)
			}
		}
	}
}

// P13.3: sizes at their limits, and beyond; that is told ahead of the letters, and of no letters, too.
func TestWidthArg(t *testing.T) {
	font := []api.Glyph{letter('a', 16), letter('b', -1)}
	for _, text := range []string{"", "a", "aa", "b", "x", "xb"} {
		for _, size := range misfits {
			spans(t, font, text, size, 0, api.ErrArg)
			spans(t, nil, text, size, 0, api.ErrArg)
		}
	}
	spans(t, font, "a", 1, 0, api.OK)
	spans(t, font, "a", widest, em, api.OK)
	spans(t, font, "a", widest-1, em, api.OK)
	spans(t, nil, "", widest, 0, api.OK)
	spans(t, nil, "", 1, 0, api.OK)
}

// P13.3: each byte alone.
func TestWidthBytes(t *testing.T) {
	var font []api.Glyph
	for code := range 700 {
		font = append(font, api.Glyph{Code: code - 200, Advance: code})
	}
	for b := range 256 {
		text := string([]byte{byte(b)})
		spans(t, nil, text, em, 0, api.ErrNone)
		spans(t, slices.Delete(slices.Clone(font), b+200, b+201), text, em, 0, api.ErrNone)
		if b < 33 || b > 126 {
			spans(t, font, text, em, 0, api.ErrArg)
			spans(t, font, "~"+text, em, 0, api.ErrArg)
			continue
		}
		spans(t, font, text, em, b+200, api.OK)
		spans(t, font, text+"!"+text, em, 2*b+633, api.OK)
	}
	spans(t, font, "é", em, 0, api.ErrArg)
	spans(t, font[:328], "é", em, 0, api.ErrNone)
}

// P13.3: as wide as a text may be, and one more, at each byte; size plays no part in it.
func TestWidthRange(t *testing.T) {
	font := []api.Glyph{letter('a', most), letter('b', 1), letter('c', 0), letter('d', most/2), letter('e', most-1), dot('f', 0, most, most)}
	for _, size := range []int{1, 100, em, widest} {
		for _, text := range []string{"a", "ca", "ac", "ddb", "dbd", "be", "eb", "eccb", "af", "fa", "ff"} {
			n, e := width(font, text, size)
			if e != api.OK {
				t.Fatal(text, e)
			}
			spans(t, font, text, size, n, api.OK)
		}
		for _, text := range []string{"ab", "ba", "aa", "ddbb", "ddd", "ee", "acb", "ebb", "abc", "ab?", "aaaaa"} {
			spans(t, font, text, size, 0, api.ErrRange)
		}
	}
	spans(t, font, "a", widest, 64*most, api.OK)
	spans(t, font, "a", 1, 8192, api.OK)
	spans(t, font, strings.Repeat("b", 4096), em, 4096, api.OK)
}

// P13.3: of several errors the first byte's; how many steps there are, and where their points come to, is none.
func TestWidthErrors(t *testing.T) {
	font := []api.Glyph{
		letter('a', 1), letter('m', 2, slices.Repeat([]api.Step{move(0, 0)}, steps)...), letter('n', 2, slices.Repeat([]api.Step{move(0, 0)}, steps+1)...),
		letter('p', most, move(most, 0)), letter('w', 1, shut()), letter('v', -1), letter('a', -1), letter('q', most+1),
	}
	for text, want := range map[string]api.Errno{
		"m": api.OK, "mmm": api.OK, "n": api.ErrArg, "an": api.ErrArg, "w": api.ErrArg, "v": api.ErrArg, "q": api.ErrArg, "?": api.ErrNone,
		"a?w": api.ErrNone, "aw?": api.ErrArg, "p?": api.ErrNone, "pw": api.ErrArg, "pq": api.ErrArg, "pa?": api.ErrRange, "paw": api.ErrRange, "pp": api.ErrRange, "p": api.OK,
	} {
		n, e := width(font, text, 100)
		if e != want {
			t.Fatal(text, e)
		}
		spans(t, font, text, 100, n, want)
	}
}

// R1: long texts, long fonts and letters of many curves end soon.
func TestLong(t *testing.T) {
	curl := letter('~', 0, append([]api.Step{move(most, 0)}, slices.Repeat([]api.Step{step(4, pt(-most, most), pt(most, -most), pt(-most, 0))}, steps-1)...)...)
	font := append(slices.Repeat([]api.Glyph{letter('a', 0)}, 100000), curl)
	spans(t, font, strings.Repeat("~", 100000), 7, 0, api.OK)
	spans(t, font, strings.Repeat("a~", 50000)+"?", 7, 0, api.ErrNone)
	sets(t, font, strings.Repeat("a", 100000), 7, o, nil, api.OK)
	sets(t, font, strings.Repeat("a", 100000)+"~~", 7, o, nil, api.ErrMany)
}
