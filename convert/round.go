package convert

import (
	"math"
	"math/bits"

	"binnacle/anatomy"
	"binnacle/api"
)

// format says which numbers there are: how many digits they have, and from which exponent to which they go.
type format struct {
	digits int
	low    int
	high   int
}

func binary32() format { return format{digits: 24, low: -126, high: 127} }

func binary64() format { return format{digits: 53, low: -1022, high: 1023} }

// rest is how much of a step is left over where a real number is cut off to whole steps.
type rest int

const (
	nothing rest = iota
	little       // less than half a step
	half
	most
)

// known tells whether a mode is one of the five.
func known(mode int) bool {
	return mode >= api.ModeNear && mode <= api.ModeDown
}

// grows tells whether what was cut off at odd or even steps is taken away from 0, to the next step, or towards it.
func grows(mode int, neg bool, odd bool, left rest) bool {
	switch mode {
	case api.ModeNear:
		return left == most || left == half && odd
	case api.ModeAway:
		return left >= half
	case api.ModeZero:
		return false
	case api.ModeUp:
		return !neg
	case api.ModeDown:
		return neg
	}
	return false
}

// cut counts the whole steps of 2^unit in an amount, and tells what is left over. The count must have room in 64 bits.
func cut(p api.Parts, unit int) (uint64, rest) {
	shift := unit - p.Exp
	if shift <= 0 {
		return p.Mant << -shift, nothing
	}
	if shift > 64 {
		// Not even the greatest mantissa reaches the half of a step.
		return 0, little
	}
	steps, under := p.Mant>>shift, p.Mant<<(64-shift)
	switch middle := uint64(1) << 63; {
	case under == 0:
		return steps, nothing
	case under < middle:
		return steps, little
	case under == middle:
		return steps, half
	}
	return steps, most
}

// stepsOf rounds to whole steps of 2^unit; of the flags it can tell FlagInexact alone.
func stepsOf(p api.Parts, unit int, mode int) (uint64, int) {
	steps, left := cut(p, unit)
	if left == nothing {
		return steps, 0
	}
	if grows(mode, p.Neg, steps%2 == 1, left) {
		steps++
	}
	return steps, api.FlagInexact
}

// round rounds to a format. Every number of the two formats is a binary64 one, so that is what it answers.
func round(p api.Parts, f format, mode int) (float64, int) {
	top := p.Exp + bits.Len64(p.Mant) - 1
	unit := max(top, f.low) - f.digits + 1
	steps, flags := stepsOf(p, unit, mode)
	if unit+bits.Len64(steps)-1 > f.high {
		return beyond(p.Neg, f, mode), api.FlagInexact | api.FlagOver
	}
	if flags != 0 && top < f.low {
		flags |= api.FlagUnder
	}
	x, _ := anatomy.Of(api.Parts{Neg: p.Neg, Mant: steps, Exp: unit})
	return x, flags
}

// beyond is what an overflow answers: infinity is the next step behind the greatest number, and what overflows is nearer to it.
func beyond(neg bool, f format, mode int) float64 {
	p := api.Parts{Neg: neg, Mant: 1<<f.digits - 1, Exp: f.high - f.digits + 1}
	x, _ := anatomy.Of(p)
	if grows(mode, neg, true, most) {
		return math.Copysign(math.Inf(1), x)
	}
	return x
}

// roundScaled rounds x * 2^k to a format; noughts, infinities and the NaN are themselves.
func roundScaled(x float64, k int, f format, mode int) (float64, int) {
	p, err := anatomy.Parts(x)
	if err != api.OK || p.Mant == 0 {
		return anatomy.Canon(x), 0
	}
	// Out there nothing of any number is left, or all of it overflows; and no sum of exponents may wrap.
	const far = 1 << 13
	p.Exp += min(max(k, -far), far)
	return round(p, f, mode)
}
