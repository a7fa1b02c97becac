package root

import "frisket/nat"

const smallWords = 2 // as many make an uint64

// Gcd answers the greatest number that is a factor of both.
func Gcd(a, b []uint32) []uint32 {
	if nat.Cmp(a, b) < 0 {
		a, b = b, a
	}
	factor, rest := cut(a), cut(b) // their common factors stay those of a and b
seek:
	for {
		switch {
		case len(rest) == 0:
			factor = nat.Trim(factor) // which may still be what was handed in
			break seek
		case len(factor) <= smallWords:
			factor = gcdSmall(factor, rest)
			break seek
		}
		factor, rest = nearer(factor, rest)
	}
	return factor
}

// gcdSmall answers the greatest number that is a factor of two that are below 2^64.
func gcdSmall(a, b []uint32) []uint32 {
	factor, _ := nat.Uint(a)
	rest, _ := nat.Uint(b)
	for rest != 0 {
		factor, rest = rest, factor%rest
	}
	return nat.Of(factor)
}

// Lcm answers the least number above 0 of which both are factors, and 0 where one is 0.
func Lcm(a, b []uint32) []uint32 {
	often, _, _ := nat.Div(a, Gcd(a, b))
	return nat.Mul(often, b)
}

// Reduce answers two numbers without their common factors.
func Reduce(a, b []uint32) ([]uint32, []uint32) {
	factor := Gcd(a, b)
	first, _, _ := nat.Div(a, factor) // where both are 0, so is the factor, and Div answers 0 beside its false
	second, _, _ := nat.Div(b, factor)
	return first, second
}
