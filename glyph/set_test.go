package glyph_test

import (
	"slices"
	"strings"
	"testing"

	"frisket/api"
	"frisket/glyph"
)

// P13.2: by hand, each kind of step and each of its points; what a step doesn't use is zero.
func TestSetHand(t *testing.T) {
	font := []api.Glyph{
		letter('a', 10, move(1, 2), step(2, pt(3, 4)), step(3, pt(5, 6), pt(7, 8)), step(4, pt(9, 10), pt(11, 12), pt(13, 14)), shut()),
		letter('b', 100, move(0, 0), move(-5, -6)),
		letter('c', 1000),
	}
	a := []api.Step{put(1, pt(1, 2)), put(2, pt(3, 4)), put(3, pt(5, 6), pt(7, 8)), put(4, pt(9, 10), pt(11, 12), pt(13, 14)), put(5)}
	sets(t, font, "a", em, o, a, api.OK)
	sets(t, font, "b", em, o, []api.Step{put(1), put(1, pt(-5, -6))}, api.OK)
	sets(t, font, "c", em, o, nil, api.OK)
	sets(t, font, "", em, o, nil, api.OK)
	sets(t, font, "ab", em, o, append(slices.Clone(a), put(1, pt(10, 0)), put(1, pt(5, -6))), api.OK)
	sets(t, font, "bb", em, o, []api.Step{put(1), put(1, pt(-5, -6)), put(1, pt(100, 0)), put(1, pt(95, -6))}, api.OK)
	sets(t, font, "bcb", em, o, []api.Step{put(1), put(1, pt(-5, -6)), put(1, pt(1100, 0)), put(1, pt(1095, -6))}, api.OK)
	sets(t, font, "ccb", 2*em, pt(7, -8), []api.Step{put(1, pt(4007, -8)), put(1, pt(3997, -20))}, api.OK)
	sets(t, font, "ba", em/2, pt(1, 1), []api.Step{
		put(1, pt(1, 1)), put(1, pt(-1, -2)),
		put(1, pt(52, 2)), put(2, pt(53, 3)), put(3, pt(54, 4), pt(55, 5)), put(4, pt(56, 6), pt(57, 7), pt(58, 8)), put(5),
	}, api.OK)
}

// P13.2: to the nearest whole number, of two the greater one, on both sides of 0; the place itself is no part of it.
func TestSetNearest(t *testing.T) {
	for n, want := range map[int]int{
		0: 0, 1: 0, 511: 0, 512: 1, 513: 1, 1023: 1, 1024: 1, 1535: 1, 1536: 2, 1537: 2, 2559: 2, 2560: 3,
		-1: 0, -511: 0, -512: 0, -513: -1, -1023: -1, -1024: -1, -1025: -1, -1535: -1, -1536: -1, -1537: -2, -2560: -2, -2561: -3,
	} {
		sets(t, []api.Glyph{dot('a', 0, n, n)}, "a", 1, o, []api.Step{put(1, pt(want, want))}, api.OK)
		sets(t, []api.Glyph{dot('a', 0, n, -n)}, "a", 3*em, pt(-7, 9), []api.Step{put(1, pt(3*n-7, 9-3*n))}, api.OK)
		sets(t, []api.Glyph{dot('a', 0, n, n)}, "a", 1, pt(-3, 1000), []api.Step{put(1, pt(want-3, want+1000))}, api.OK)
		sets(t, []api.Glyph{dot('a', 0, 2*n, n)}, "a", 1, pt(5, -6), []api.Step{put(1, pt(near(2*n, 1)+5, want-6))}, api.OK)
	}
	for x := -2100; x <= 2100; x++ {
		for _, size := range []int{1, 2, 3, 300, 511, 512, 513, 1023, 1025, 1536, widest - 1, widest} {
			want := []api.Step{put(1, pt(near(x, size), near(7-x, size)))}
			sets(t, []api.Glyph{dot('a', 0, x, 7-x)}, "a", size, o, want, api.OK)
		}
	}
}

// P13.2: pen and x are added up ahead of being rounded; Y goes without the pen.
func TestSetPen(t *testing.T) {
	font := []api.Glyph{dot('a', 1, 0, 1), dot('b', 3, 1, -1), dot('c', 0, -1, 3)}
	at := func(x, y int) api.Step { return put(1, pt(x, y)) }
	sets(t, font, "aaaa", em/2, o, []api.Step{at(0, 1), at(1, 1), at(1, 1), at(2, 1)}, api.OK)
	sets(t, font, "bbbb", em/2, o, []api.Step{at(1, 0), at(2, 0), at(4, 0), at(5, 0)}, api.OK)
	sets(t, font, "cccc", em/2, o, []api.Step{at(0, 2), at(0, 2), at(0, 2), at(0, 2)}, api.OK)
	sets(t, font, "aba", em/2, o, []api.Step{at(0, 1), at(1, 0), at(2, 1)}, api.OK)
	sets(t, font, "acb", em/2, o, []api.Step{at(0, 1), at(0, 2), at(1, 0)}, api.OK)
	sets(t, font, "ba", em/3, pt(10, 20), []api.Step{at(10, 20), at(11, 20)}, api.OK)
	sets(t, font, "bbba", em/4, pt(-1, -1), []api.Step{at(-1, -1), at(0, -1), at(1, -1), at(1, -1)}, api.OK)
	for n := range 60 {
		both(t, font, strings.Repeat("abc", n), 341, pt(n, -n))
		both(t, font, strings.Repeat("cbba", n/2), 100+n, pt(-n, n))
	}
}

// P13.2: sizes and places at their limits, and beyond; that is told ahead of the letters, and of no letters, too.
func TestSetArg(t *testing.T) {
	font := []api.Glyph{dot('a', 5, 3, 4), letter('b', -1)}
	for _, text := range []string{"", "a", "aa", "b", "x", "ab", "xa"} {
		for _, size := range misfits {
			sets(t, font, text, size, o, nil, api.ErrArg)
			sets(t, font, text, size, junk, nil, api.ErrArg)
			sets(t, nil, text, size, o, nil, api.ErrArg)
		}
		for _, n := range far {
			for _, at := range []api.Point{pt(n, 0), pt(0, n), pt(n, n), pt(most, n), pt(n, -most)} {
				sets(t, font, text, em, at, nil, api.ErrArg)
				sets(t, nil, text, widest, at, nil, api.ErrArg)
			}
		}
		for _, size := range []int{1, 2, em, widest - 1, widest} {
			for _, at := range []api.Point{o, pt(most, most), pt(-most, -most), pt(most, -most), pt(-most, 5)} {
				both(t, font, text, size, at)
			}
		}
	}
	sets(t, nil, "", 1, pt(most, -most), nil, api.OK)
	sets(t, nil, "", widest, pt(-most, most), nil, api.OK)
	sets(t, font, "a", 1, pt(most, -most), []api.Step{put(1, pt(most, -most))}, api.OK)
	sets(t, font, "a", widest, o, []api.Step{put(1, pt(192, 256))}, api.OK)
}

// P13.2: each byte alone: those of a text's letters that are more than a byte, too.
func TestSetBytes(t *testing.T) {
	var font []api.Glyph
	for code := range 700 {
		font = append(font, api.Glyph{Code: code - 200, Advance: 2, Steps: []api.Step{move(code, 0)}})
	}
	for b := range 256 {
		text := string([]byte{byte(b)})
		sets(t, nil, text, em, o, nil, api.ErrNone)
		sets(t, font[:200], text, em, o, nil, api.ErrNone)
		sets(t, font[456:], text, em, o, nil, api.ErrNone)
		if b < 33 || b > 126 {
			sets(t, font, text, em, o, nil, api.ErrArg)
			sets(t, font, "a"+text, em, o, nil, api.ErrArg)
			continue
		}
		sets(t, font, text, em, o, []api.Step{put(1, pt(b+200, 0))}, api.OK)
		sets(t, font, "!"+text+"!", em, o, []api.Step{put(1, pt(233, 0)), put(1, pt(b+202, 0)), put(1, pt(237, 0))}, api.OK)
	}
	for _, text := range []string{"é", "aé", "日本", "\xe9", "\x00", "a\nb", " "} {
		sets(t, font, text, em, o, nil, api.ErrArg)
		sets(t, font[200+33:200+128], text, em, o, nil, api.ErrNone)
	}
	sets(t, append(slices.Clone(font[:328]), letter('\u00e9', 1)), "é", em, o, nil, api.ErrNone) // it is no letter of its two bytes
}

// P13.2: a text has the first glyph of a code, be it one that may not be; what it doesn't have may be whatever it is.
func TestSetFirst(t *testing.T) {
	a, b, bad := dot('a', 5, 1, 1), dot('b', 6, 2, 2), letter('a', 5, shut())
	sets(t, []api.Glyph{a, dot('a', 7, 3, 3), b}, "aab", em, o, []api.Step{put(1, pt(1, 1)), put(1, pt(6, 1)), put(1, pt(12, 2))}, api.OK)
	sets(t, []api.Glyph{a, bad, b}, "ba", em, o, []api.Step{put(1, pt(2, 2)), put(1, pt(7, 1))}, api.OK)
	sets(t, []api.Glyph{bad, a, b}, "ba", em, o, nil, api.ErrArg)
	sets(t, []api.Glyph{bad, a, b}, "bb", em, o, []api.Step{put(1, pt(2, 2)), put(1, pt(8, 2))}, api.OK)
	for _, g := range []api.Glyph{letter('a', -1), letter('a', most+1), letter('a', 1, step(0)), letter('a', 1, step(1, junk)), letter('a', 1, slices.Repeat([]api.Step{move(0, 0)}, steps+1)...)} {
		sets(t, []api.Glyph{b, g}, "a", em, o, nil, api.ErrArg)
		sets(t, []api.Glyph{b, g}, "bab", em, o, nil, api.ErrArg)
		sets(t, []api.Glyph{b, g}, "b", em, o, []api.Step{put(1, pt(2, 2))}, api.OK)
	}
}

// P13.2: as many steps as there may be, and one more.
func TestSetMany(t *testing.T) {
	many := func(code byte, n int) api.Glyph {
		return letter(code, 0, slices.Repeat([]api.Step{move(1, 2)}, n)...)
	}
	font := []api.Glyph{many('a', steps), many('b', 1), many('c', steps/2), many('d', 0), many('e', steps-1), many('f', steps/2+1)}
	for _, text := range []string{"a", "ad", "da", "cc", "be", "eb", "cdcd", strings.Repeat("b", steps), strings.Repeat("db", steps), "c" + strings.Repeat("b", steps/2)} {
		sets(t, font, text, em, o, slices.Repeat([]api.Step{put(1, pt(1, 2))}, steps), api.OK)
		for _, more := range []string{"b", "db", "a", "c", "bd", "e", "bx"} {
			sets(t, font, text+more, em, o, nil, api.ErrMany)
		}
		sets(t, font, text+"x", em, o, nil, api.ErrNone)
		spans(t, font, text+"aaa", em, 0, api.OK)
	}
	for _, text := range []string{"cf", "fc", "ab", "ba", "ee", "bbe", "ff"} {
		sets(t, font, text, em, o, nil, api.ErrMany)
	}
	sets(t, font, strings.Repeat("d", 100*steps), em, o, nil, api.OK)
}

// P13.2: where a point may be, by each step's points, on both sides of the limits.
func TestSetRange(t *testing.T) {
	p := pt(0, 0)
	for _, op := range kinds[:4] {
		for i := range uses(op) {
			for _, sign := range []int{-1, 1} {
				for _, up := range []bool{false, true} {
					reach := func(n int) api.Glyph {
						s := step(op, slices.Repeat([]api.Point{p}, uses(op))...)
						s.P[i].X = n * sign
						if up {
							s.P[i] = pt(0, n*sign)
						}
						return letter('a', 0, move(0, 0), s)
					}
					at := pt(sign*(most-100), sign*(most-100))
					for _, x := range []struct{ size, n int }{{em, 100}, {em / 2, 200}, {10 * em, 10}, {1, 102400}, {widest, 1}} {
						want, e := set([]api.Glyph{reach(x.n)}, "a", x.size, at)
						if e != api.OK {
							t.Fatal(x, e)
						}
						sets(t, []api.Glyph{reach(x.n)}, "a", x.size, at, want, api.OK)
						sets(t, []api.Glyph{reach(2*x.n + 10)}, "a", x.size, at, nil, api.ErrRange)
					}
					sets(t, []api.Glyph{reach(101)}, "a", em, at, nil, api.ErrRange)
					both(t, []api.Glyph{reach(201)}, "a", em/2, at) // of halves the greater one: it is beyond the upper limit alone
					both(t, []api.Glyph{reach(202)}, "a", em/2, at)
				}
			}
		}
	}
	sets(t, []api.Glyph{dot('a', 0, most, most)}, "a", em, o, []api.Step{put(1, pt(most, most))}, api.OK)
	sets(t, []api.Glyph{dot('a', 0, most, 0)}, "a", em+1, o, nil, api.ErrRange)
	sets(t, []api.Glyph{dot('a', 0, 0, -most)}, "a", em+1, o, nil, api.ErrRange)
	sets(t, []api.Glyph{dot('a', 0, -most, most)}, "a", 1, o, []api.Step{put(1, pt(-8192, 8192))}, api.OK)
	sets(t, []api.Glyph{dot('a', 0, -most, 0)}, "a", 2*em, pt(most, 0), []api.Step{put(1, pt(-most, 0))}, api.OK)
	sets(t, []api.Glyph{dot('a', 0, most, -most)}, "a", widest, o, nil, api.ErrRange)
}

// P13.2: pen and x, and the pen behind a letter, on both sides of the limit, though points would be near.
func TestSetFar(t *testing.T) {
	wide := func(n, x int) []api.Glyph {
		return []api.Glyph{letter('a', n), dot('b', 0, x, 0), letter('c', 1), letter('d', 0)}
	}
	one := func(x int) []api.Step { return []api.Step{put(1, pt(x, 0))} }
	sets(t, wide(most, 0), "a", 1, o, nil, api.OK)
	sets(t, wide(most, 0), "ad", 1, o, nil, api.OK)
	sets(t, wide(most, 0), "ac", 1, o, nil, api.ErrRange)
	sets(t, wide(most, 0), "aa", 1, o, nil, api.ErrRange)
	sets(t, wide(most-1, 0), "ac", 1, o, nil, api.OK)
	sets(t, wide(most-1, 0), "acc", 1, o, nil, api.ErrRange)
	sets(t, wide(most/2, 0), "aa", 1, o, nil, api.OK)
	sets(t, wide(most/2, 0), "aac", 1, o, nil, api.OK)
	sets(t, wide(most/2+1, 0), "aa", 1, o, nil, api.ErrRange)
	sets(t, wide(most, 0), "ab", 1, o, one(8192), api.OK)
	sets(t, wide(most, 1), "ab", 1, o, nil, api.ErrRange)
	sets(t, wide(most, -1), "ab", 1, o, one(8192), api.OK)
	sets(t, wide(most, -most), "ab", 1, o, one(0), api.OK)
	sets(t, wide(5, most-5), "ab", 1, o, one(8192), api.OK)
	sets(t, wide(5, most-4), "ab", 1, o, nil, api.ErrRange)
	sets(t, wide(5, -most), "ab", 1, o, one(-8192), api.OK)
	sets(t, wide(most, most), "ab", 1, pt(-most, 0), nil, api.ErrRange)
	sets(t, wide(most, most), "b", 1, pt(-most, 0), one(8192-most), api.OK)
	sets(t, []api.Glyph{letter('a', most, move(0, 0), step(4, o, o, pt(most, 0)))}, "a", em, o, []api.Step{put(1), put(4, o, o, pt(most, 0))}, api.OK)
}

// P13.2: of several errors the first byte's, and of one byte's the one that is named first.
func TestSetErrors(t *testing.T) {
	many := slices.Repeat([]api.Step{move(0, 0)}, steps)
	font := []api.Glyph{
		dot('a', 1, 0, 0), letter('m', 1, many...), letter('r', 1, slices.Repeat([]api.Step{move(most, 0)}, steps)...),
		letter('p', most), dot('x', 0, most, 0), letter('w', 1, shut()), letter('v', most, move(0, 0), shut(), shut()),
	}
	for text, want := range map[string]api.Errno{
		"m": api.OK, "am": api.ErrMany, "mw": api.ErrArg, "w?": api.ErrArg, "?w": api.ErrNone, "m?": api.ErrNone, "ma": api.ErrMany,
		"r": api.OK, "ar": api.ErrMany, "ax": api.ErrRange, "axm": api.ErrRange, "axw": api.ErrRange, "ax?": api.ErrRange,
		"aw": api.ErrArg, "mv": api.ErrArg, "pp": api.ErrRange, "ppw": api.ErrRange, "pp?": api.ErrRange, "ppm": api.ErrRange,
		"p?": api.ErrNone, "pw": api.ErrArg, "pv": api.ErrArg, "pam": api.ErrRange, "pa": api.ErrRange, "px": api.ErrRange, "pr": api.ErrRange,
		"am?": api.ErrMany, "amw": api.ErrMany, "mx": api.ErrMany, "aa?w": api.ErrNone, "aaw?": api.ErrArg, "pd": api.ErrNone,
	} {
		got, e := set(font, text, em, o)
		if e != want {
			t.Fatal(text, got, e)
		}
		sets(t, font, text, em, o, got, want)
		sets(t, font, text, widest+1, o, nil, api.ErrArg)
		sets(t, font, text, em, pt(0, most+1), nil, api.ErrArg)
	}
}

// P13.2, P13.3: all texts of up to four letters of a few kinds, against the chapter's words.
func TestSmall(t *testing.T) {
	font := []api.Glyph{
		letter('a', 341, move(1, 1), step(3, pt(5, 9), pt(300, 400)), shut()), dot('a', 5, 5, 5), dot('b', most/3, most/2, -9), letter('c', 0),
		letter('d', 77, slices.Repeat([]api.Step{move(-3, 3)}, steps/2)...), letter('e', -1), dot('f', 1, -most, most),
	}
	var next func(text string)
	next = func(text string) {
		for _, size := range []int{0, 1, 100, 1500} {
			both(t, font, text, size, pt(-20, 30))
		}
		if len(text) < 4 {
			for _, b := range "abcdefg" {
				next(text + string(b))
			}
		}
	}
	next("")
}

// P13.2, P13.3: any fonts and texts, against the chapter's words.
func TestDice(t *testing.T) {
	d := dice(133)
	right := 0
	for range 20000 {
		n := []int{5, 900, 100000, most}[d.roll(4)]
		font := make([]api.Glyph, d.roll(6))
		for i := range font {
			font[i] = letter(byte(97+d.roll(4)), d.roll(n), d.path(d.roll(5), n)...)
			if d.roll(30) == 0 {
				font[i].Advance = -1
			}
		}
		text := make([]byte, d.roll(6))
		for i := range text {
			text[i] = byte(97 + d.roll(4))
		}
		size, at := 1+d.roll([]int{20, 2000, widest + 5}[d.roll(3)]), d.point([]int{0, 100, most}[d.roll(3)])
		if _, e := set(font, string(text), size, at); e == api.OK && len(text) > 0 {
			right++
		}
		both(t, font, string(text), size, at)
	}
	if right < 1000 || right > 15000 {
		t.Errorf("%d were set", right)
	}
}

// P13.4: a text of two is the first one, and the second one, moved on: by its width, where that is whole.
func TestSetTwo(t *testing.T) {
	d := dice(134)
	for range 2000 {
		font := []api.Glyph{
			letter('a', 64*d.roll(50), d.path(d.roll(6), 2000)...), letter('b', 64*d.roll(50), d.path(d.roll(6), 2000)...), letter('c', 64*d.roll(50), d.path(d.roll(6), 2000)...),
		}
		one, two := []string{"a", "ab", "cab", ""}[d.roll(4)], []string{"b", "ca", "bcb", ""}[d.roll(4)]
		size, at := 16*(1+d.roll(100)), d.point(5000)
		got, e := glyph.Set(font, one+two, size, at)
		first, e1 := glyph.Set(font, one, size, at)
		wide, e2 := glyph.Width(font, one, size)
		second, e3 := glyph.Set(font, two, size, pt(at.X+wide, at.Y))
		if e != api.OK || e1 != api.OK || e2 != api.OK || e3 != api.OK || !slices.Equal(got, append(first, second...)) {
			t.Fatalf("%v %q %q %d %v: %v, %v", font, one, two, size, at, got, e)
		}
	}
}

// R3: what is set is new memory, and the same each time.
func TestSetNew(t *testing.T) {
	font := []api.Glyph{letter('a', 5, put(1, pt(1, 2)), put(2, pt(3, 4)))}
	was := copied(font)
	got, _ := glyph.Set(font, "aa", em, o)
	for i := range got {
		got[i] = step(9)
	}
	left(t, font, was)
	sets(t, font, "aa", em, o, []api.Step{put(1, pt(1, 2)), put(2, pt(3, 4)), put(1, pt(6, 2)), put(2, pt(8, 4))}, api.OK)
}
