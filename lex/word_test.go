package lex_test

import (
	"strings"
	"testing"

	"frisket/lex"
)

// P6.3
func TestWord(t *testing.T) {
	for b := range 256 {
		s, fits := string([]byte{byte(b)}), b >= 33 && b <= 126
		for _, text := range []string{s, s + "a", "a" + s, "a" + s + "a", s + s, strings.Repeat("a", 5000) + s, s + strings.Repeat("~", 5000)} {
			if lex.Word(text) != fits {
				t.Errorf("Word(%q): %v", short(text), !fits)
			}
		}
	}
	if lex.Word("") {
		t.Error("Word of no bytes")
	}
	for _, s := range []string{"a b", "é", "１", "a\u00a0", "\ufeffa", "☃"} {
		if lex.Word(s) {
			t.Errorf("Word(%q)", s)
		}
	}
	d := dice(9)
	for range 20000 {
		if s := d.text(6); lex.Word(s) != wordForm.MatchString(s) {
			t.Errorf("Word(%q): %v", s, lex.Word(s))
		}
	}
}

// P6.3: of all texts, be they words or not.
func TestLong(t *testing.T) {
	for _, l := range [][]string{nil, {}, {""}, {"", ""}, {"a"}, {"a", "bc"}, {"a", "", "\n", " "}, {"é", "☃", "\xff"}, {strings.Repeat("x", 5000), "y"}, make([]string, 5000), {"", "", "", "a"}} {
		if want := len(strings.Join(l, " ")); lex.Long(l) != want {
			t.Errorf("Long(%.40q): %d, not %d", l, lex.Long(l), want)
		}
	}
	if n := lex.Long([]string{"a", "bc"}); n != 4 {
		t.Errorf("Long of a and bc: %d", n)
	}
	huge := strings.Repeat("x", 1<<20)
	if n := lex.Long([]string{huge, huge, huge}); n != 3<<20+2 {
		t.Errorf("Long of three texts of 2^20 bytes: %d", n)
	}
	l := make([]string, 1<<12)
	for i := range l {
		l[i] = huge
	}
	if n := lex.Long(l); n != 1<<32+1<<12-1 {
		t.Errorf("Long of what comes to more than 2^32 bytes: %d", n)
	}
	d := dice(7)
	for range 2000 {
		l := make([]string, d.roll(6))
		for i := range l {
			l[i] = d.text(6)
		}
		if want := len(strings.Join(l, " ")); lex.Long(l) != want {
			t.Errorf("Long(%q): %d, not %d", l, lex.Long(l), want)
		}
	}
}
