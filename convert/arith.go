package convert

import (
	"math"

	"binnacle/anatomy"
	"binnacle/api"
)

// Add is the sum of two singles.
func Add(a, b float32, mode int) (float32, int, api.Errno) {
	if !known(mode) {
		return 0, 0, api.ErrMode
	}
	f, flags := addition(Widen(a), Widen(b), mode)
	return f, flags, api.OK
}

// Sub is their difference.
func Sub(a, b float32, mode int) (float32, int, api.Errno) {
	return Add(a, -b, mode)
}

// Mul is their product.
func Mul(a, b float32, mode int) (float32, int, api.Errno) {
	if !known(mode) {
		return 0, 0, api.ErrMode
	}
	f, flags := multiplication(Widen(a), Widen(b), mode)
	return f, flags, api.OK
}

// Div is their quotient.
func Div(a, b float32, mode int) (float32, int, api.Errno) {
	if !known(mode) {
		return 0, 0, api.ErrMode
	}
	f, flags := division(Widen(a), Widen(b), mode)
	return f, flags, api.OK
}

// Root is a single's root.
func Root(a float32, mode int) (float32, int, api.Errno) {
	if !known(mode) {
		return 0, 0, api.ErrMode
	}
	p, err := anatomy.Parts32(a)
	switch {
	case a < 0:
		return theNaN(), api.FlagInvalid, api.OK
	case err != api.OK || p.Mant == 0:
		return anatomy.Canon32(a), 0, api.OK
	}
	x, flags := round(root(p), binary32(), mode)
	return float32(x), flags, api.OK
}

// Fused is a product and a sum that are rounded once.
func Fused(a, b, c float32, mode int) (float32, int, api.Errno) {
	if !known(mode) {
		return 0, 0, api.ErrMode
	}
	f, flags := fusion(Widen(a), Widen(b), Widen(c), mode)
	return f, flags, api.OK
}

func theNaN() float32 {
	return anatomy.Canon32(float32(math.NaN()))
}

// fusion takes widened singles: their product has 48 digits at most, so as a number it is exact.
func fusion(a, b, c float64, mode int) (float32, int) {
	product := float64(a * b)
	if math.IsNaN(product) && !math.IsNaN(a) && !math.IsNaN(b) && !math.IsNaN(c) {
		return theNaN(), api.FlagInvalid
	}
	return addition(product, c, mode)
}

func multiplication(a, b float64, mode int) (float32, int) {
	product := float64(a * b)
	if math.IsNaN(product) && !math.IsNaN(a) && !math.IsNaN(b) {
		return theNaN(), api.FlagInvalid
	}
	return narrow(product, mode)
}

// addition takes widened singles, or a product of two of them.
func addition(x, y float64, mode int) (float32, int) {
	s := x + y
	switch {
	case math.IsNaN(x) || math.IsNaN(y):
		return theNaN(), 0
	case math.IsNaN(s):
		return theNaN(), api.FlagInvalid
	case s == 0:
		return noughtOf(x, y, mode), 0
	case math.IsInf(s, 0):
		return float32(s), 0
	}
	return narrow(oddSum(x, y), mode)
}

// noughtOf is the nought that x and y add up to.
func noughtOf(x, y float64, mode int) float32 {
	if anatomy.Same(x, y) {
		return float32(x)
	}
	if mode == api.ModeDown {
		return float32(math.Copysign(0, -1))
	}
	return 0
}

func division(a, b float64, mode int) (float32, int) {
	p, aErr := anatomy.Parts(a)
	q, bErr := anatomy.Parts(b)
	if aErr == api.OK && bErr == api.OK && p.Mant != 0 && q.Mant != 0 {
		x, flags := round(quotient(p, q), binary32(), mode)
		return float32(x), flags
	}
	// What is left are noughts, infinities and NaNs: there binary64 divides without rounding.
	x := a / b
	switch {
	case math.IsNaN(a) || math.IsNaN(b):
		return theNaN(), 0
	case math.IsNaN(x):
		return theNaN(), api.FlagInvalid
	case aErr == api.OK && b == 0:
		return float32(x), api.FlagZero
	}
	return float32(x), 0
}
