package figure

import "frisket/api"

// figures are what the halves of bytes are told by; a half is the place of its figure.
var figures = [...]byte{'0', '1', '2', '3', '4', '5', '6', '7', '8', '9', 'a', 'b', 'c', 'd', 'e', 'f'}

const (
	halfBits = 4
	half     = 1<<halfBits - 1
)

// Hex answers bytes as two figures each.
func Hex(b []byte) string {
	out := make([]byte, 0, 2*len(b))
	for _, x := range b {
		out = append(out, figures[x>>halfBits], figures[x&half])
	}
	return string(out)
}

// Unhex answers the bytes of figures.
func Unhex(s string) ([]byte, api.Errno) {
	if len(s)%2 != 0 {
		return nil, api.ErrForm
	}
	out := make([]byte, len(s)/2)
	for i, c := range s {
		v, ok := worth(c)
		if !ok {
			return nil, api.ErrForm
		}
		out[i/2] = out[i/2]<<halfBits | v
	}
	return out, api.OK
}

// worth answers the half that a letter stands for; false, if it is no figure.
func worth(c rune) (byte, bool) {
	for v, f := range figures {
		if rune(f) == c { // the letter isn't cut to a byte: others beyond end in the same bits
			return byte(v), true
		}
	}
	return 0, false
}
