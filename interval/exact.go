package interval

import (
	"math"
	"math/bits"

	"binnacle/anatomy"
	"binnacle/api"
)

// What is exact is held as whole numbers without end: words, the lowest one first, times a power of 2. They are products of the odd mantissas of numbers.

const wordBits = 64

// wholePower is m to the power of n. A mantissa has less digits than a word, so n words have room for it.
func wholePower(m uint64, n int) []uint64 {
	words := make([]uint64, n)
	words[0] = 1
	for range n {
		multiply(words, m)
	}
	return words
}

// multiply puts the product in the words' own place; it must have room there.
func multiply(words []uint64, m uint64) {
	var carry uint64
	for i := range len(words) {
		high, low := bits.Mul64(words[i], m)
		var over uint64
		words[i], over = bits.Add64(low, carry, 0)
		carry = high + over
	}
}

// rounded is the number for words * 2^exp, on the asked side.
func rounded(neg bool, words []uint64, exp int, to side) float64 {
	x, just := within(folded(words, exp))
	if !just && to == side(!neg) {
		x = anatomy.Next(x)
	}
	if neg {
		return -x
	}
	return x
}

// folded is words * 2^exp as a word with all its digits, the first one a 1, times a power of 2. Products of odd mantissas are odd: so what has no room in the word isn't 0, and makes the last digit a 1, which says that no number is exact here.
func folded(words []uint64, exp int) (uint64, int) {
	top := len(words) - 1
	for words[top] == 0 {
		top--
	}
	shift := bits.LeadingZeros64(words[top])
	mant := words[top] << shift
	if top > 0 {
		mant |= words[top-1]>>(wordBits-shift) | 1
	}
	return mant, exp + wordBits*top - shift
}

// within is the greatest number that isn't above mant * 2^exp, and whether it is just that; mant is folded.
func within(mant uint64, exp int) (float64, bool) {
	const (
		digits = 53
		lowest = -1074
	)
	cut := max(wordBits-digits, lowest-exp)
	kept := mant >> cut
	x, err := anatomy.Of(api.Parts{Mant: kept, Exp: exp + cut})
	if err != api.OK {
		return math.MaxFloat64, false
	}
	return x, kept<<cut == mant
}
