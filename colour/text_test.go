package colour_test

import (
	"encoding/hex"
	"strings"
	"testing"

	"frisket/api"
	"frisket/colour"
)

// P8.3
func TestText(t *testing.T) {
	for _, c := range []struct {
		c    api.Colour
		want string
	}{
		{api.Colour{}, "00000000"}, {api.Colour{R: 255, G: 255, B: 255, A: 255}, "ffffffff"}, {api.Colour{R: 1, G: 35, B: 69, A: 103}, "01234567"}, {api.Colour{R: 254, G: 220, B: 186, A: 152}, "fedcba98"},
		{api.Colour{R: 255}, "ff000000"}, {api.Colour{G: 255}, "00ff0000"}, {api.Colour{B: 255}, "0000ff00"}, {api.Colour{A: 255}, "000000ff"}, {api.Colour{R: 10, G: 160, B: 9, A: 144}, "0aa00990"},
	} {
		if got := colour.Text(c.c); got != c.want {
			t.Errorf("Text(%v): %q, not %q", c.c, got, c.want)
		}
		if got, e := colour.Parse(c.want); got != c.c || e != api.OK {
			t.Errorf("Parse(%q): %v, %v", c.want, got, e)
		}
	}
}

// P8.3: what is told is read as it was: each part in each place, and any colours.
func TestParseOfText(t *testing.T) {
	d := dice(11)
	tells := func(c api.Colour) {
		s := colour.Text(c)
		if want := hex.EncodeToString([]byte{c.R, c.G, c.B, c.A}); s != want {
			t.Errorf("Text(%v): %q, not %q", c, s, want)
		}
		if got, e := colour.Parse(s); got != c || e != api.OK {
			t.Errorf("Parse(%q): %v, %v, not %v", s, got, e, c)
		}
	}
	for part := range 256 {
		n := uint8(part)
		tells(api.Colour{R: n, G: 1, B: 2, A: 3})
		tells(api.Colour{R: 1, G: n, B: 2, A: 3})
		tells(api.Colour{R: 1, G: 2, B: n, A: 3})
		tells(api.Colour{R: 1, G: 2, B: 3, A: n})
	}
	for _, c := range colours() {
		tells(c)
	}
	for range 20000 {
		tells(d.colour())
	}
}

// P8.3: texts that are no colour's.
func TestParseForm(t *testing.T) {
	for _, s := range []string{
		"", "0", "00", "000000", "0000000", "000000000", "0000000000", "000000000000", "0000000000000000",
		"FF000000", "ff0000fF", "0000000g", "g0000000", "#ffffff", "#ffffffff", "0x000000", "0xff0000ff", "-1000000", "+1000000",
		" 0000000", "0000000 ", "00000000 ", " 00000000", "00000000\n", "0000000\n", "\n00000000", "ff 00 00", "00000000 00000000", "255 0 0 128", "red", "\x00\x00\x00\x00\x00\x00\x00\x00", "\xff\xff\xff\xff",
		"0000000\xff", "000000é", "00000é", "éééé", "０００００００0", "0000000½", "½½½½½½½½", "\u0130000000", "\u01300000000", "\ufeff00000000",
		strings.Repeat("0", 1<<20), strings.Repeat("0", 1<<20+8), strings.Repeat("g", 1<<20),
	} {
		if c, e := colour.Parse(s); c != (api.Colour{}) || e != api.ErrForm {
			t.Errorf("Parse of %d bytes (%.12q ..): %v, %v", len(s), s, c, e)
		}
	}
	for size := range 64 {
		parses(t, strings.Repeat("a", size))
	}
}

// P8.3: each byte and each letter in each place.
func TestParseBytes(t *testing.T) {
	for b := range 256 {
		for at := range 8 {
			s := []byte("0f19a75c")
			s[at] = byte(b)
			parses(t, string(s))
		}
		c := string([]byte{byte(b)})
		parses(t, "0f19a75c"+c)
		parses(t, c+"0f19a75c")
		parses(t, "0f19a7"+c)
	}
	for c := rune(0); c < 0x3000; c++ {
		parses(t, string(c)+"0000000")
		parses(t, "0000000"+string(c))
		for size := 1; size < 4; size++ {
			parses(t, string(c)+strings.Repeat("0", 8-size))
			parses(t, strings.Repeat("0", 8-size)+string(c))
		}
	}
}

// P8.3
func TestParseDice(t *testing.T) {
	d := dice(12)
	for range 50000 {
		parses(t, d.letters(10, "0123456789abcdef"))
		parses(t, d.letters(10, "0189afAFg "))
	}
	for range 50000 {
		s := ""
		for len(s) < 8 {
			s += d.letters(8-len(s), "0123456789abcdef")
		}
		parses(t, s)
	}
}
