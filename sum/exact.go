package sum

import (
	"math"
	"math/bits"
	"slices"

	"binnacle/anatomy"
	"binnacle/api"
	"binnacle/dyad"
)

// notFinite are a list's infinities and NaNs. Their sum in order is the list's exact one: finite numbers, however many, don't change it.
func notFinite(l []float64) []float64 {
	return slices.DeleteFunc(slices.Clone(l), func(x float64) bool {
		return anatomy.Finite([]float64{x})
	})
}

// notFinitePairs are the pairs with an infinity or a NaN. The products of the others are finite, even if a number can't hold them, and so left out.
func notFinitePairs(a, b []float64) ([]float64, []float64) {
	var c, d []float64
	for i, x := range a {
		if y := b[i]; !anatomy.Finite([]float64{x, y}) {
			c = append(c, x)
			d = append(d, y)
		}
	}
	return c, d
}

// products are those of the pairs, each rounded by itself.
func products(a, b []float64) []float64 {
	out := make([]float64, len(a))
	for i, x := range a {
		out[i] = float64(x * b[i])
	}
	return out
}

// numberFor rounds what a list comes to exactly. A dyad has but one 0: the sign of noughts is seen in the list.
func numberFor(d api.Dyad, l []float64) (float64, api.Errno) {
	if allMinus(l) {
		return math.Copysign(0, -1), api.OK
	}
	return dyad.Round(d, api.ModeNear)
}

// allMinus tells whether a list isn't empty and holds -0 alone.
func allMinus(l []float64) bool {
	for _, x := range l {
		if x != 0 || !math.Signbit(x) {
			return false
		}
	}
	return len(l) > 0
}

// quotient is d / n; of digits without end all behind the last one are left out, and that one is set: so it is rounded as the quotient itself.
func quotient(d api.Dyad, n int) (api.Dyad, api.Errno) {
	// With three words more a quotient that isn't 0 has above 80 digits, so that the last one is far behind those that a number keeps: of a subnormal, too, since there the sum is below 2^-1010, and the last digit is 2^-96 times one of the sum's.
	const more = 3
	mag := append(make([]uint32, more), d.Mag...)
	var rest uint32
	for i, word := range slices.Backward(mag) {
		mag[i], rest = bits.Div32(rest, word, uint32(n))
	}
	if rest != 0 {
		mag[0] |= 1
	}
	return dyad.Make(d.Neg, mag, d.Exp-more*32)
}
