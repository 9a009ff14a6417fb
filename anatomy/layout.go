package anatomy

import (
	"math/bits"

	"binnacle/api"
)

// In each pair of constants the first line (iota 0) is a single's, the second one (iota 1) a number's.

// How many bits the fraction field has, which is the lowest field.
const (
	fracBits32 = 23 + 29*iota
	fracBits64
)

// The mask of the fraction field.
const (
	fracMask32 = 1<<(23+29*iota) - 1
	fracMask64
)

// The mask of the exponent field once it is shifted down: so the field of infinities and NaNs.
const (
	expMask32 = 1<<(8+3*iota) - 1
	expMask64
)

// The sign.
const (
	signBit32 = 1 << (31 + 32*iota)
	signBit64
)

// The fraction field of the NaN: a number's ends with a 1, a single's doesn't.
const (
	nanFrac32 = 1<<(22+29*iota) + iota
	nanFrac64
)

// The exponent field by which the lowest bit is worth 1.
const (
	unitExp32 = 1<<(7+3*iota) - 1 + 23 + 29*iota
	unitExp64
)

// word is the bits of a single or of a number.
type word interface {
	uint32 | uint64
}

// layout says where the fields of a word lie, and which words stand for no finite number.
type layout[W word] struct {
	fracBits int
	fracMask W
	expMask  W
	signBit  W
	inf      W
	nan      W
	unitExp  int
}

func layout32() layout[uint32] {
	return layout[uint32]{
		fracBits: fracBits32,
		fracMask: fracMask32,
		expMask:  expMask32,
		signBit:  signBit32,
		inf:      expMask32 << fracBits32,
		nan:      expMask32<<fracBits32 | nanFrac32,
		unitExp:  unitExp32,
	}
}

func layout64() layout[uint64] {
	return layout[uint64]{
		fracBits: fracBits64,
		fracMask: fracMask64,
		expMask:  expMask64,
		signBit:  signBit64,
		inf:      expMask64 << fracBits64,
		nan:      expMask64<<fracBits64 | nanFrac64,
		unitExp:  unitExp64,
	}
}

func canon[W word](l layout[W], w W) W {
	if w&^l.signBit > l.inf {
		return l.nan
	}
	return w
}

func split[W word](l layout[W], w W) (neg bool, exp int, frac W) {
	w = canon(l, w)
	return w&l.signBit != 0, int(w >> l.fracBits & l.expMask), w & l.fracMask
}

func join[W word](l layout[W], neg bool, exp int, frac W) (W, api.Errno) {
	if exp < 0 || exp > int(l.expMask) || frac > l.fracMask {
		return 0, api.ErrRange
	}
	return canon(l, signed(l, neg, W(exp)<<l.fracBits|frac)), api.OK
}

func signed[W word](l layout[W], neg bool, magnitude W) W {
	if neg {
		return magnitude | l.signBit
	}
	return magnitude
}

// classOf counts up from ClassNaN: the classes are numbered so that each one stands just above the one that it falls into.
func classOf[W word](l layout[W], w W) api.Class {
	_, exp, frac := split(l, w)
	top := int(l.expMask)
	class := api.ClassNaN
	switch {
	case exp != 0 && exp != top: // normal
		class++
		fallthrough
	case exp == 0 && frac != 0: // subnormal
		class++
		fallthrough
	case exp == 0: // zero
		class++
		fallthrough
	case frac == 0: // infinite
		class++
	}
	return class
}

func partsOf[W word](l layout[W], w W) (api.Parts, api.Errno) {
	neg, exp, frac := split(l, w)
	if exp == int(l.expMask) {
		return api.Parts{}, api.ErrNumber
	}
	if exp == 0 && frac == 0 {
		return api.Parts{Neg: neg}, api.OK
	}
	mant := uint64(frac)
	if exp > 0 {
		mant |= 1 << l.fracBits
	}
	zeros := bits.TrailingZeros64(mant)
	return api.Parts{Neg: neg, Mant: mant >> zeros, Exp: lowestBit(l, exp) + zeros}, api.OK
}

// lowestBit is the power of 2 that the lowest bit is worth; subnormals share it with the least normal ones.
func lowestBit[W word](l layout[W], exp int) int {
	return max(exp, 1) - l.unitExp
}

func wordOf[W word](l layout[W], p api.Parts) (W, api.Errno) {
	if p.Mant == 0 {
		return signed(l, p.Neg, 0), api.OK
	}
	// No mantissa of 64 bits reaches a number from out here; within, no sum below can wrap.
	if p.Exp < -l.unitExp-64 || p.Exp > l.unitExp {
		return 0, api.ErrParts
	}
	zeros := bits.TrailingZeros64(p.Mant)
	mant, low := p.Mant>>zeros, p.Exp+zeros
	size := bits.Len64(mant)
	// The exponent field, if the highest bit of the mantissa is to be the one that isn't written.
	exp := low + size - 1 + l.unitExp - l.fracBits
	if size > l.fracBits+1 || low < lowestBit(l, 0) || exp >= int(l.expMask) {
		return 0, api.ErrParts
	}
	if exp < 1 {
		return signed(l, p.Neg, W(mant)<<(low-lowestBit(l, 0))), api.OK
	}
	frac := W(mant) << (l.fracBits + 1 - size) & l.fracMask
	return signed(l, p.Neg, W(exp)<<l.fracBits|frac), api.OK
}

func next[W word](l layout[W], w W) W {
	switch w = canon(l, w); {
	case w == l.nan || w == l.inf:
		return w
	case w == l.signBit: // +0 isn't above -0
		return 1
	case w&l.signBit != 0:
		return w - 1
	}
	return w + 1
}

func prev[W word](l layout[W], w W) W {
	if w = canon(l, w); w == l.nan {
		return w
	}
	return next(l, w^l.signBit) ^ l.signBit
}

func ulp[W word](l layout[W], w W) W {
	_, exp, _ := split(l, w)
	if exp == int(l.expMask) {
		return canon(l, w) &^ l.signBit
	}
	// A power of 2 that is worth a bit of some number is a number itself.
	step, _ := wordOf(l, api.Parts{Mant: 1, Exp: lowestBit(l, exp)})
	return step
}
