package figure_test

import (
	"bytes"
	"strings"
	"testing"

	"frisket/api"
	"frisket/figure"
)

// P7.3: the chapter's example, and others.
func TestHex(t *testing.T) {
	for _, c := range []struct {
		b    []byte
		want string
	}{
		{nil, ""}, {[]byte{}, ""}, {[]byte{0, 171}, "00ab"}, {[]byte{171, 0}, "ab00"}, {[]byte{0}, "00"}, {[]byte{15}, "0f"}, {[]byte{240}, "f0"}, {[]byte{255}, "ff"}, {[]byte{1, 35, 69, 103, 137, 171, 205, 239}, "0123456789abcdef"},
	} {
		if got := figure.Hex(c.b); got != c.want {
			t.Errorf("Hex(%d): %q, not %q", c.b, got, c.want)
		}
		if got, e := figure.Unhex(c.want); !bytes.Equal(got, c.b) || e != api.OK {
			t.Errorf("Unhex(%q): %d, %v", c.want, got, e)
		}
	}
}

// P7.3, P7.4: each pair of bytes, and many bytes.
func TestHexAll(t *testing.T) {
	for a := range 256 {
		hexes(t, []byte{byte(a)})
		for b := range 256 {
			hexes(t, []byte{byte(a), byte(b)})
		}
	}
	d := dice(5)
	for range 2000 {
		hexes(t, d.bytes(100))
	}
	hexes(t, bytes.Repeat([]byte{0, 127, 128, 255}, 1<<18))
}

// P7.3: each two letters of a byte each, and each behind and ahead of right ones.
func TestUnhexBytes(t *testing.T) {
	for a := range 256 {
		for b := range 256 {
			s := string([]byte{byte(a), byte(b)})
			unhexes(t, s)
			unhexes(t, "0f"+s+"a9")
		}
		s := string([]byte{byte(a)})
		for _, text := range []string{s, s + "00", "00" + s, "0" + s + "0", "ab" + s + "c", "abcdef" + s} {
			unhexes(t, text)
		}
	}
}

// P7.3: letters beyond a byte, among them such as end in the bits of a figure.
func TestUnhexLetters(t *testing.T) {
	for c := rune(0); c < 0x11000; c++ {
		for _, s := range []string{string(c), string(c) + "0", "0" + string(c), "00" + string(c), string(c) + string(c)} {
			unhexes(t, s)
		}
	}
	for _, c := range []rune{0x10030, 0x10061, 0x100030, 0x10ff41, 0x1d7d8, 0xff10, 0xff41} {
		unhexes(t, string(c))
		unhexes(t, "00"+string(c)+"00")
	}
}

// P7.3: texts that no bytes have.
func TestUnhexForm(t *testing.T) {
	for _, s := range []string{
		"0", "a", "000", "abc", "A", "AB", "aB", "Ab", "FF", "0G", "g0", "0x", "0x00", " 0", "0 ", "00 00", "00\n", "0\n", "\n0", "-1", "+1", "a-", "a:", "/0", "`0", "@0", "G0", "\x00\x00", "\xff\xff", "0\xff", "é", "½", "００", "0\u0130", "\u0130", "\ufeff0",
		strings.Repeat("0", 1<<20+1), strings.Repeat("0", 1<<20) + "0g", "g" + strings.Repeat("0", 1<<20-1), strings.Repeat("F", 1<<20),
	} {
		if b, e := figure.Unhex(s); len(b) != 0 || e != api.ErrForm {
			t.Errorf("Unhex(%q): %d bytes, %v", short(s), len(b), e)
		}
	}
}

// P7.3: all texts of few letters that are of different kinds.
func TestUnhexAll(t *testing.T) {
	kinds := "09afAg "
	texts := []string{""}
	for range 7 {
		var longer []string
		for _, s := range texts {
			unhexes(t, s)
			for i := range len(kinds) {
				longer = append(longer, s+kinds[i:i+1])
			}
		}
		texts = longer
	}
}

// P7.3, P7.4
func TestUnhexDice(t *testing.T) {
	d := dice(9)
	for range 20000 {
		unhexes(t, d.letters(12, "0123456789abcdef"))
		unhexes(t, d.letters(12, "0123456789abcdefg"))
		unhexes(t, d.letters(12, "0123456789abcdefABCDEF"))
	}
}

// R3: what is handed in isn't changed, and what is answered is its own.
func TestHexOwn(t *testing.T) {
	b := []byte{1, 2, 3}
	s := figure.Hex(b[:2])
	b[0] = 9
	if s != "0102" || b[2] != 3 {
		t.Errorf("Hex hangs on its bytes, or changed them: %q, %d", s, b)
	}
	one, _ := figure.Unhex("0102")
	other, _ := figure.Unhex("0102")
	one[0] = 9
	if other[0] != 1 {
		t.Errorf("two answers share bytes: %d", other)
	}
}
