package lex_test

import (
	"regexp"
	"slices"
	"strings"
	"testing"

	"frisket/api"
	"frisket/lex"
)

var (
	wordForm = regexp.MustCompile(`\A[!-~]+\z`)
	lineForm = regexp.MustCompile(`\A[!-~]+( [!-~]+)*\z`)
)

// lines answers what Lines is to answer, by the chapter's words one behind the other.
func lines(b []byte) ([][]string, int, api.Errno) {
	var out [][]string
	text := string(b)
	for at := 1; text != ""; at++ {
		long := strings.IndexByte(text, '\n')
		switch {
		case at > 1000:
			return nil, at, api.ErrMany
		case long < 0:
			return nil, at, api.ErrOpen
		case long > 4096:
			return nil, at, api.ErrRest
		case !lineForm.MatchString(text[:long]):
			return nil, at, api.ErrForm
		}
		out = append(out, strings.Split(text[:long], " "))
		text = text[long+1:]
	}
	return out, 0, api.OK
}

// join answers what Join is to answer.
func join(l [][]string) (string, int, api.Errno) {
	var out strings.Builder
	for i, row := range l {
		line := strings.Join(row, " ")
		switch {
		case i >= 1000:
			return "", i + 1, api.ErrMany
		case len(line) > 4096:
			return "", i + 1, api.ErrRest
		case len(row) == 0 || slices.ContainsFunc(row, func(s string) bool { return !wordForm.MatchString(s) }):
			return "", i + 1, api.ErrForm
		}
		out.WriteString(line + "\n")
	}
	return out.String(), 0, api.OK
}

// short answers what of a text can be told.
func short(s string) string {
	if len(s) > 80 {
		return s[:40] + " .. " + s[len(s)-40:]
	}
	return s
}

// same tells if two texts have the same words in the same lines.
func same(a, b [][]string) bool {
	return slices.EqualFunc(a, b, slices.Equal[[]string])
}

// reads holds what Lines answers against the model; of what is read it tells, too, that it is joined as it was.
func reads(t *testing.T, s string) {
	t.Helper()
	b := []byte(s)
	got, at, e := lex.Lines(b)
	want, wantAt, wantE := lines(b)
	if !same(got, want) || at != wantAt || e != wantE {
		t.Errorf("Lines(%q): %d lines, %d, %v, not %d lines, %d, %v", short(s), len(got), at, e, len(want), wantAt, wantE)
	}
	if string(b) != s {
		t.Errorf("Lines(%q) changed its text", short(s))
	}
	if e != api.OK {
		return
	}
	if text, at, e := lex.Join(got); string(text) != s || at != 0 || e != api.OK {
		t.Errorf("Join of the lines of %q: %q, %d, %v", short(s), short(string(text)), at, e)
	}
}

// joins holds what Join answers against the model; of what is joined it tells, too, that it is read as it was.
func joins(t *testing.T, l [][]string) {
	t.Helper()
	text, at, e := lex.Join(l)
	want, wantAt, wantE := join(l)
	if string(text) != want || at != wantAt || e != wantE {
		t.Errorf("Join(%s): %q, %d, %v, not %q, %d, %v", tell(l), short(string(text)), at, e, short(want), wantAt, wantE)
	}
	if e != api.OK {
		return
	}
	if got, at, e := lex.Lines(text); !same(got, l) || at != 0 || e != api.OK {
		t.Errorf("Lines of what %s was joined to: %s, %d, %v", tell(l), tell(got), at, e)
	}
}

// tell answers the last of some lines, shortened.
func tell(l [][]string) string {
	if len(l) == 0 {
		return "no lines"
	}
	return short(strings.Join(l[len(l)-1], "|"))
}

// line answers a line of so many bytes, in words of most bytes.
func line(long, most int) string {
	out := []byte(strings.Repeat("x", long))
	for i := most; i < long-1; i += most + 1 {
		out[i] = ' '
	}
	return string(out)
}

// rows answers the same line again and again.
func rows(n int, words ...string) [][]string {
	out := make([][]string, n)
	for i := range out {
		out[i] = words
	}
	return out
}

// dice answers the same numbers each time.
type dice uint64

func (d *dice) roll(n int) int {
	*d = *d*6364136223846793005 + 1442695040888963407
	return int(*d>>33) % n
}

// text answers up to most bytes, most of them in words.
func (d *dice) text(most int) string {
	out := make([]byte, d.roll(most+1))
	for i := range out {
		switch n := d.roll(40); {
		case n < 6:
			out[i] = ' '
		case n < 12:
			out[i] = '\n'
		case n == 12:
			out[i] = byte(d.roll(256))
		default:
			out[i] = byte(33 + d.roll(94))
		}
	}
	return string(out)
}

// word answers a word of up to most bytes.
func (d *dice) word(most int) string {
	out := make([]byte, 1+d.roll(most))
	for i := range out {
		out[i] = byte(33 + d.roll(94))
	}
	return string(out)
}
