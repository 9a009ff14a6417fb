// Package anatomy is layer 1: see shared/doc/01-anatomy.md.
package anatomy

import (
	"cmp"
	"math"

	"binnacle/api"
)

// Same tells whether two numbers have the same bits, all NaNs being one.
func Same(a float64, b float64) bool {
	l := layout64()
	return canon(l, math.Float64bits(a)) == canon(l, math.Float64bits(b))
}

// Same32 tells it of singles.
func Same32(a float32, b float32) bool {
	l := layout32()
	return canon(l, math.Float32bits(a)) == canon(l, math.Float32bits(b))
}

// Canon is the number, or the NaN.
func Canon(x float64) float64 {
	return math.Float64frombits(canon(layout64(), math.Float64bits(x)))
}

// Canon32 is the single, or the single NaN.
func Canon32(x float32) float32 {
	return math.Float32frombits(canon(layout32(), math.Float32bits(x)))
}

// Class is a number's class.
func Class(x float64) api.Class {
	return classOf(layout64(), math.Float64bits(x))
}

// Class32 is a single's.
func Class32(x float32) api.Class {
	return classOf(layout32(), math.Float32bits(x))
}

// Finite tells whether all numbers of a list are finite.
func Finite(l []float64) bool {
	for _, x := range l {
		if _, exp, _ := Split(x); exp == expMask64 {
			return false
		}
	}
	return true
}

// Split tells a number's three fields.
func Split(x float64) (bool, int, uint64) {
	return split(layout64(), math.Float64bits(x))
}

// Split32 tells a single's.
func Split32(x float32) (bool, int, uint32) {
	return split(layout32(), math.Float32bits(x))
}

// Join makes a number of its fields.
func Join(neg bool, exp int, frac uint64) (float64, api.Errno) {
	w, err := join(layout64(), neg, exp, frac)
	return math.Float64frombits(w), err
}

// Join32 makes a single.
func Join32(neg bool, exp int, frac uint32) (float32, api.Errno) {
	w, err := join(layout32(), neg, exp, frac)
	return math.Float32frombits(w), err
}

// Parts are a finite number's, the mantissa odd.
func Parts(x float64) (api.Parts, api.Errno) {
	return partsOf(layout64(), math.Float64bits(x))
}

// Parts32 are a single's.
func Parts32(x float32) (api.Parts, api.Errno) {
	return partsOf(layout32(), math.Float32bits(x))
}

// Of is the number that has parts, exactly.
func Of(p api.Parts) (float64, api.Errno) {
	w, err := wordOf(layout64(), p)
	return math.Float64frombits(w), err
}

// Of32 is the single that has them.
func Of32(p api.Parts) (float32, api.Errno) {
	w, err := wordOf(layout32(), p)
	return math.Float32frombits(w), err
}

// Next is the least number above.
func Next(x float64) float64 {
	return math.Float64frombits(next(layout64(), math.Float64bits(x)))
}

// Prev is the greatest number below.
func Prev(x float64) float64 {
	return math.Float64frombits(prev(layout64(), math.Float64bits(x)))
}

// Next32 is the least single above.
func Next32(x float32) float32 {
	return math.Float32frombits(next(layout32(), math.Float32bits(x)))
}

// Prev32 is the greatest single below.
func Prev32(x float32) float32 {
	return math.Float32frombits(prev(layout32(), math.Float32bits(x)))
}

// Ulp is the step from a number's magnitude to the next one.
func Ulp(x float64) float64 {
	return math.Float64frombits(ulp(layout64(), math.Float64bits(x)))
}

// Ulp32 is a single's.
func Ulp32(x float32) float32 {
	return math.Float32frombits(ulp(layout32(), math.Float32bits(x)))
}

// The last places of the total order; the first one is that of -infinity, as far below -0 as keyInf is above +0.
const (
	keyInf   = expMask64 << fracBits64
	keyNaN   = keyInf + 1
	keyFirst = -1 - keyInf
)

// Key is a number's place in the total order.
func Key(x float64) int64 {
	w := math.Float64bits(x)
	magnitude := int64(w &^ signBit64)
	switch {
	case magnitude > keyInf:
		return keyNaN
	case w&signBit64 != 0:
		return -1 - magnitude
	}
	return magnitude
}

// Unkey is the number at a place.
func Unkey(k int64) (float64, api.Errno) {
	switch {
	case k < keyFirst || k > keyNaN:
		return 0, api.ErrRange
	case k == keyNaN:
		return math.Float64frombits(layout64().nan), api.OK
	case k < 0:
		return math.Float64frombits(uint64(-1-k) | signBit64), api.OK
	}
	return math.Float64frombits(uint64(k)), api.OK
}

// Compare holds two numbers against each other in the total order.
func Compare(a float64, b float64) int {
	return cmp.Compare(Key(a), Key(b))
}

// Steps counts the steps between two numbers.
func Steps(a float64, b float64) (uint64, api.Errno) {
	from, to := Key(a), Key(b)
	if from == keyNaN || to == keyNaN {
		return 0, api.ErrNumber
	}
	if from > to {
		from, to = to, from
	}
	// From -infinity to +infinity it is more than an int64 holds: the difference is right as a word.
	return uint64(to) - uint64(from), api.OK
}
