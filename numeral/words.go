package numeral

import (
	"math"
	"math/bits"
	"slices"
	"strings"
)

// Whole numbers without end are words here, the lowest one first. They are worked on in place.

const wordBits = 32

// wordsOf is the whole number that decimal digits count.
func wordsOf(digits string) []uint32 {
	var words []uint32
	for _, r := range digits {
		words = scaled(words, 10, uint32(r-'0'))
	}
	return words
}

// digitsOf is a whole number's decimal digits without zeros ahead: of 0 none.
func digitsOf(words []uint32) string {
	const (
		piece = 9
		unit  = 1000000000
	)
	var out []byte
	for len(words) > 0 {
		rest := quotient(words, unit)
		for range piece {
			out = append(out, byte('0'+rest%10))
			rest /= 10
		}
		if last := len(words) - 1; words[last] == 0 {
			words = words[:last]
		}
	}
	slices.Reverse(out)
	return strings.TrimLeft(string(out), "0")
}

// multiplied is words * base^n.
func multiplied(words []uint32, base uint32, n int) []uint32 {
	for _, f := range factors(base, n) {
		words = scaled(words, f, 0)
	}
	return words
}

// divided is a whole number q and an exponent of 2, so that q / 2^exp stands for words / base^n: q has more than 64 bits, and its last bit says too whether something is left over: so both lie on the same side of all numbers and of what is half way between two.
func divided(words []uint32, base uint32, n int) ([]uint32, int) {
	by := factors(base, n)
	// No factor takes away more than a word.
	low := len(by) + 2
	q := append(make([]uint32, low), words...)
	left := false
	for _, f := range by {
		left = quotient(q, f) != 0 || left
	}
	if left {
		q[0] |= 1
	}
	return q, low * wordBits
}

// factors are words whose product is base^n.
func factors(base uint32, n int) []uint32 {
	var out []uint32
	for n > 0 {
		f := uint32(1)
		for ; n > 0 && f <= math.MaxUint32/base; n-- {
			f *= base
		}
		out = append(out, f)
	}
	return out
}

// scaled is words * by + more.
func scaled(words []uint32, by, more uint32) []uint32 {
	carry := uint64(more)
	for i, w := range words {
		carry += uint64(w) * uint64(by)
		words[i] = uint32(carry)
		carry >>= wordBits
	}
	if carry != 0 {
		words = append(words, uint32(carry))
	}
	return words
}

// quotient leaves words / by in the words, and answers the rest.
func quotient(words []uint32, by uint32) uint32 {
	var rest uint32
	for i, w := range slices.Backward(words) {
		words[i], rest = bits.Div32(rest, w, by)
	}
	return rest
}
