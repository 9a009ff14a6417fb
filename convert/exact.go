package convert

import (
	"math"
	"math/bits"

	"binnacle/anatomy"
	"binnacle/api"
)

// What is reckoned here is to be rounded to the 24 digits of binary32 later on. So where it has no end, or too many digits, it is cut off behind 26 of them or more, and its last one is made a 1: on which side of a number or of a tie it lies is still to be seen.

// oddSum is x + y if that is a number, else the one with a last digit of 1 of the two numbers around it. x, y and their sum must be finite.
func oddSum(x, y float64) float64 {
	s := x + y
	back := s - x
	// Knuth's sum of two: s and lost are together x + y, exactly.
	lost := (x - (s - back)) + (y - back)
	switch {
	case lost == 0 || math.Float64bits(s)&1 == 1:
		return s
	case lost > 0:
		return anatomy.Next(s)
	}
	return anatomy.Prev(s)
}

// quotient divides amounts that aren't 0, the mantissas of which are singles'.
func quotient(a, b api.Parts) api.Parts {
	shift := bits.LeadingZeros64(a.Mant)
	above := a.Mant << shift
	return api.Parts{
		Neg:  a.Neg != b.Neg,
		Mant: above/b.Mant | oneOf(above%b.Mant),
		Exp:  a.Exp - shift - b.Exp,
	}
}

// root is the root of an amount that isn't 0.
func root(a api.Parts) api.Parts {
	shift := bits.LeadingZeros64(a.Mant)
	// A root halves the exponent: it must be even.
	if (a.Exp-shift)%2 != 0 {
		shift--
	}
	r, left := wholeRoot(a.Mant << shift)
	return api.Parts{Mant: r | oneOf(left), Exp: (a.Exp - shift) / 2}
}

// wholeRoot finds the root digit by digit, as by hand: each one takes two digits more of n down.
func wholeRoot(n uint64) (r uint64, left uint64) {
	const digits = 32
	for i := range digits {
		left = left<<2 | n>>(2*(digits-1-i))&3
		less := r<<2 | 1
		r <<= 1
		if left >= less {
			left -= less
			r |= 1
		}
	}
	return r, left
}

// oneOf is 1 of whatever is left over, 0 of nothing.
func oneOf(left uint64) uint64 {
	if left == 0 {
		return 0
	}
	return 1
}
