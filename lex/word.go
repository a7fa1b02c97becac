package lex

// The bytes that a word may have.
const (
	lowest  = 33
	highest = 126
)

// Word tells if s is a word.
func Word(s string) bool {
	for i := range len(s) {
		if s[i] < lowest || s[i] > highest {
			return false
		}
	}
	return s != ""
}

// Long answers how many bytes a line of these texts has, the byte at its end left out, whatever the texts are.
func Long(l []string) int {
	sum := max(0, len(l)-1) // the blanks
	for _, s := range l {
		sum += len(s)
	}
	return sum
}
