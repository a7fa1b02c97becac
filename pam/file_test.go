package pam_test

import (
	"bytes"
	"fmt"
	"slices"
	"strings"
	"testing"

	"frisket/api"
	"frisket/pam"
)

// P9.2: the chapter's example, byte by byte.
func TestWriteOne(t *testing.T) {
	want := "P7\nWIDTH 1\nHEIGHT 1\nDEPTH 4\nMAXVAL 255\nTUPLTYPE RGB_ALPHA\nENDHDR\n\x01\x02\x80\xff"
	got, e := pam.Write(api.Raster{W: 1, H: 1, Pix: []api.Colour{{R: 1, G: 2, B: 128, A: 255}}})
	if string(got) != want || len(got) != 65+4 || e != api.OK {
		t.Errorf("Write of a colour: %q, %v", got, e)
	}
}

// P9.2: two rows, the one of Y 0 first.
func TestWriteRows(t *testing.T) {
	want := "P7\nWIDTH 3\nHEIGHT 2\nDEPTH 4\nMAXVAL 255\nTUPLTYPE RGB_ALPHA\nENDHDR\n\x01\x02\x03\x04\x05\x06\x07\x08\n\n\n\n\x00\x00\x00\x00\xff\xfe\xfd\xfc\x7f\x80\x81\x20"
	r := api.Raster{W: 3, H: 2, Pix: []api.Colour{{R: 1, G: 2, B: 3, A: 4}, {R: 5, G: 6, B: 7, A: 8}, {R: 10, G: 10, B: 10, A: 10}, {}, {R: 255, G: 254, B: 253, A: 252}, {R: 127, G: 128, B: 129, A: 32}}}
	got, e := pam.Write(r)
	if string(got) != want || e != api.OK {
		t.Errorf("Write of six colours: %q, %v", got, e)
	}
	if again, e := pam.Read([]byte(want)); !same(again, r) || e != api.OK {
		t.Errorf("Read of six colours: %s, %v", told(again), e)
	}
}

// P9.2, P9.4: rasters of all sides are written by the model, and read as they were.
func TestWriteAll(t *testing.T) {
	d := dice(31)
	for w := 1; w <= 64; w++ {
		for h := 1; h <= 64; h++ {
			r := d.raster(w, h)
			want := []byte(lines(w, h))
			for _, c := range r.Pix {
				want = append(want, c.R, c.G, c.B, c.A)
			}
			was := slices.Clone(r.Pix)
			got, e := pam.Write(r)
			if !bytes.Equal(got, want) || e != api.OK || !slices.Equal(r.Pix, was) {
				t.Fatalf("Write of %s: %.90q, %v", told(r), got, e)
			}
			again, e := pam.Read(got)
			if !same(again, r) || e != api.OK {
				t.Fatalf("Read of what was written of %s: %s, %v", told(r), told(again), e)
			}
		}
	}
}

// P9.2
func TestWriteWrong(t *testing.T) {
	for _, r := range wrong() {
		if got, e := pam.Write(r); len(got) != 0 || e != api.ErrArg {
			t.Errorf("Write of %s: %.90q, %v", told(r), got, e)
		}
	}
}

// P9.2: sides of all sizes, and others that there are none of, with as many bytes as they would ask for.
func TestReadSides(t *testing.T) {
	for w := -3; w < 140; w++ {
		for h := -3; h < 140; h++ {
			if w > 3 && w < 60 && h > 3 && h < 60 {
				continue
			}
			b := append([]byte(lines(w, h)), make([]byte, max(4*w*h, 0))...)
			got, e := pam.Read(b)
			want, wantE := read(b)
			if !same(got, want) || e != wantE {
				t.Fatalf("Read of %d times %d: %s, %v, not %v", w, h, told(got), e, wantE)
			}
		}
	}
}

// P9.2: sides that are told otherwise than Write does.
func TestReadTold(t *testing.T) {
	for _, side := range []string{
		"", " ", "0", "00", "01", "001", "+1", "-1", "--1", "-", "+", "1 ", " 1", "1.", "1.0", ".1", "1e0", "0x1", "1_0", "1,0", "1a", "a", "a1", "1\r", "1\t", "1\x00", "\x001", "1\x0b", "1 1", "١", "１", "1\n", "\n1",
		"64", "65", "066", "64 ", "100", "127", "128", "255", "256", "257", "640", "999", "65536", "65537", "4294967296", "4294967297", "18446744073709551616", "18446744073709551617", "-18446744073709551615", "-64", "-0", "0x40", "1 # one", "#1",
		strings.Repeat("0", 1<<16) + "1", strings.Repeat("1", 1<<16), "1" + strings.Repeat(" ", 1<<16),
	} {
		for _, size := range []int{0, 4, 8, 256, 1024} {
			pix := strings.Repeat("p", size)
			reads(t, []byte("P7\nWIDTH "+side+"\nHEIGHT 1\nDEPTH 4\nMAXVAL 255\nTUPLTYPE RGB_ALPHA\nENDHDR\n"+pix))
			reads(t, []byte("P7\nWIDTH 1\nHEIGHT "+side+"\nDEPTH 4\nMAXVAL 255\nTUPLTYPE RGB_ALPHA\nENDHDR\n"+pix))
			reads(t, []byte("P7\nWIDTH 2\nHEIGHT "+side+"\nDEPTH 4\nMAXVAL 255\nTUPLTYPE RGB_ALPHA\nENDHDR\n"+pix))
		}
	}
}

// P9.2: files cut at each place, and with more bytes behind them.
func TestReadLong(t *testing.T) {
	for _, side := range [][2]int{{1, 1}, {2, 3}, {10, 1}, {1, 64}, {12, 34}} {
		w, h := side[0], side[1]
		b, _ := pam.Write(counted(w, h))
		head := len(b) - 4*w*h
		for n := range len(b) {
			want := api.ErrForm
			if n >= head {
				want = api.ErrShort
			}
			if got, e := pam.Read(b[:n]); !empty(got) || e != want {
				t.Fatalf("Read of %d bytes of %d: %s, %v, not %v", n, len(b), told(got), e, want)
			}
		}
		for more := 1; more < 10; more++ {
			if got, e := pam.Read(append(slices.Clone(b), make([]byte, more)...)); !empty(got) || e != api.ErrRest {
				t.Fatalf("Read of %d bytes more: %s, %v", more, told(got), e)
			}
		}
		// What is behind the bytes in the same memory counts for nothing.
		if got, e := pam.Read(append(slices.Clone(b), "more"...)[:len(b)]); !same(got, counted(w, h)) || e != api.OK {
			t.Fatalf("Read with room behind: %s, %v", told(got), e)
		}
		if got, e := pam.Read(append(slices.Clone(b), b...)); !empty(got) || e != api.ErrRest {
			t.Fatalf("Read of the file twice: %s, %v", told(got), e)
		}
	}
}

// P9.2: each byte of the lines changed to each other one, left out, or with one more ahead; of files that are right but for that, that have too few bytes, and too many.
func TestReadBytes(t *testing.T) {
	for _, more := range []int{0, -1, 1} {
		b := []byte(lines(2, 11) + strings.Repeat("\x0a\x20\x30\x40", 22) + "?")
		b = b[:len(b)-1+more]
		head := len(lines(2, 11))
		for at := 0; at <= head; at++ {
			left := slices.Concat(b[:at], b[min(at+1, len(b)):])
			reads(t, left)
			for v := range 256 {
				put := slices.Concat(b[:at], []byte{byte(v)}, b[at:])
				reads(t, put)
				if at < head {
					changed := slices.Clone(b)
					changed[at] = byte(v)
					reads(t, changed)
				}
			}
		}
	}
}

// P9.2: lines in another order, left out, twice, or with others between.
func TestReadLines(t *testing.T) {
	rows := strings.SplitAfter(lines(3, 2), "\n")
	rows = rows[:len(rows)-1]
	pix := strings.Repeat("pixl", 6)
	for i := range rows {
		for k := range rows {
			swapped := slices.Clone(rows)
			swapped[i], swapped[k] = swapped[k], swapped[i]
			reads(t, []byte(strings.Join(swapped, "")+pix))
			reads(t, []byte(strings.Join(slices.Insert(slices.Clone(rows), i, rows[k]), "")+pix))
			put := slices.Clone(rows)
			put[i] = rows[k]
			reads(t, []byte(strings.Join(put, "")+pix))
		}
		reads(t, []byte(strings.Join(slices.Delete(slices.Clone(rows), i, i+1), "")+pix))
		for _, other := range []string{"\n", "#\n", "# a remark\n", " \n", "\r\n", "TUPLTYPE RGB\n", "P6\n", "MAXVAL 65535\n", "DEPTH 3\n"} {
			reads(t, []byte(strings.Join(slices.Insert(slices.Clone(rows), i, other), "")+pix))
			put := slices.Clone(rows)
			put[i] = other
			reads(t, []byte(strings.Join(put, "")+pix))
		}
		for _, behind := range []string{" \n", "\r\n", " 4\n", "0\n", "\n\n", "\x00\n", "", " ", "\r", "\v\n"} {
			put := slices.Clone(rows)
			put[i] = strings.TrimSuffix(rows[i], "\n") + behind
			reads(t, []byte(strings.Join(put, "")+pix))
		}
		for _, ahead := range []string{" ", "\t", "\n", "\ufeff", "#"} {
			put := slices.Clone(rows)
			put[i] = ahead + rows[i]
			reads(t, []byte(strings.Join(put, "")+pix))
		}
		for _, f := range []func(string) string{strings.ToLower, func(s string) string { return strings.ReplaceAll(s, " ", "  ") }, func(s string) string { return strings.ReplaceAll(s, " ", "\t") }, func(s string) string { return strings.ReplaceAll(s, " ", "") }, func(s string) string { return strings.ReplaceAll(s, "\n", "\r") }} {
			put := slices.Clone(rows)
			put[i] = f(rows[i])
			reads(t, []byte(strings.Join(put, "")+pix))
		}
	}
}

// P9.2: files that are none at all.
func TestReadForm(t *testing.T) {
	for _, s := range []string{
		"", "\n", "\n\n\n\n\n\n\n", "P", "P7", "P7\n", "P7\n\n\n\n\n\n\n", "P6\n1 1\n255\nabc", "P7\nENDHDR\n", "P7\nWIDTH 1\nHEIGHT 1\nDEPTH 4\nMAXVAL 255\nENDHDR\nabcd",
		"P7\nHEIGHT 1\nWIDTH 1\nDEPTH 4\nMAXVAL 255\nTUPLTYPE RGB_ALPHA\nENDHDR\nabcd", "P7\nWIDTH 1\nHEIGHT 1\nDEPTH 4\nMAXVAL 255\nTUPLTYPE RGB_ALPHA\nENDHDR", "P7 WIDTH 1 HEIGHT 1 DEPTH 4 MAXVAL 255 TUPLTYPE RGB_ALPHA ENDHDR\nabcd",
		"P7\nWIDTH 1\nHEIGHT 1\nDEPTH 3\nMAXVAL 255\nTUPLTYPE RGB\nENDHDR\nabc", "\x00", "\xff\xfe", strings.Repeat("P", 1<<20), strings.Repeat("\n", 1<<20), strings.Repeat("P7\n", 1<<16), "P7\nWIDTH " + strings.Repeat("1", 1<<20), "\x89PNG\r\n\x1a\n",
	} {
		if got, e := pam.Read([]byte(s)); !empty(got) || e != api.ErrForm {
			t.Errorf("Read of %d bytes (%.90q): %s, %v", len(s), s, told(got), e)
		}
	}
	if got, e := pam.Read(nil); !empty(got) || e != api.ErrForm {
		t.Errorf("Read of nothing: %s, %v", told(got), e)
	}
}

// P9.2, P9.4: colours of all parts, weighted or not, and bytes that are as lines are.
func TestReadParts(t *testing.T) {
	for part := range 4 {
		for v := range 256 {
			pix := []byte{7, 77, 177, 27}
			pix[part] = byte(v)
			r := api.Raster{W: 1, H: 1, Pix: []api.Colour{{R: pix[0], G: pix[1], B: pix[2], A: pix[3]}}}
			b := append([]byte(lines(1, 1)), pix...)
			if got, e := pam.Read(b); !same(got, r) || e != api.OK {
				t.Fatalf("Read of %v: %s, %v", pix, told(got), e)
			}
			if got, e := pam.Write(r); !bytes.Equal(got, b) || e != api.OK {
				t.Fatalf("Write of %v: %q, %v", pix, got, e)
			}
		}
	}
	reads(t, []byte(lines(16, 1)+lines(1, 1)[1:]))
	reads(t, []byte(lines(8, 2)+strings.Repeat("\n", 64)))
	reads(t, []byte(lines(8, 2)+strings.Repeat("ENDHDR\n\n", 8)))
}

// R3: what was read shares nothing with the file, nor with what is read again; and each file is new.
func TestFileNew(t *testing.T) {
	r := counted(3, 3)
	b, _ := pam.Write(r)
	other, _ := pam.Write(r)
	was := slices.Clone(b)
	first, _ := pam.Read(b)
	second, _ := pam.Read(b)
	for i := range b {
		b[i] = '!'
	}
	if !same(first, r) || !same(second, r) || !bytes.Equal(other, was) {
		t.Error("what was read or written shares bytes with a file")
	}
	for i := range first.Pix {
		first.Pix[i] = api.Colour{}
	}
	if !same(second, r) {
		t.Error("what was read twice shares colours")
	}
	if again, e := pam.Write(r); !bytes.Equal(again, was) || e != api.OK {
		t.Errorf("Write the third time: %q, %v", again, e)
	}
}

// P9.4: files of any bytes behind any lines.
func TestReadDice(t *testing.T) {
	d := dice(41)
	for range 4000 {
		w, h := 1+d.roll(9), 1+d.roll(9)
		b := []byte(lines(w, h))
		for range 4*w*h + d.roll(3) - 1 {
			b = append(b, byte(d.roll(256)))
		}
		for range d.roll(3) {
			b[d.roll(len(b))] = byte(d.roll(256))
		}
		reads(t, b)
	}
	rows := []string{"P7\n", "WIDTH 1\n", "HEIGHT 1\n", "DEPTH 4\n", "MAXVAL 255\n", "TUPLTYPE RGB_ALPHA\n", "ENDHDR\n"}
	for range 4000 {
		s := strings.Join(rows[:d.roll(len(rows))], "")
		for range d.roll(4) {
			s += rows[d.roll(len(rows))]
		}
		reads(t, []byte(s+fmt.Sprintf("%0*d", 4, d.roll(1000))))
	}
}
