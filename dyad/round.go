package dyad

import (
	"math"

	"binnacle/anatomy"
	"binnacle/api"
)

// rest is how much of a step is left over where an amount is cut off to whole steps.
type rest int

const (
	little rest = iota // less than half a step
	half
	most
)

// cut is what a mode looks at where an amount lies between two steps.
type cut struct {
	neg  bool
	odd  bool // the step next to it towards 0 is an odd one
	left rest
}

// Each mode says whether the step away from 0 is taken, in place of the one towards it.

func (c cut) near() bool { return c.left == most || c.left == half && c.odd }

func (c cut) away() bool { return c.left != little }

func (c cut) zero() bool { return false }

func (c cut) up() bool { return !c.neg }

func (c cut) down() bool { return c.neg }

// grows finds what a mode does; nil, if there is no such mode.
func grows(mode int) func(cut) bool {
	ways := [...]func(cut) bool{
		api.ModeNear: cut.near,
		api.ModeAway: cut.away,
		api.ModeZero: cut.zero,
		api.ModeUp:   cut.up,
		api.ModeDown: cut.down,
	}
	if mode < 0 || mode >= len(ways) {
		return nil
	}
	return ways[mode]
}

// restOf tells what is left over where the lowest n bits, at least one, of a dyad's magnitude are cut off.
func restOf(mag whole, n int) rest {
	switch {
	case n == 1:
		// The lowest bit of a magnitude is always 1: cut off alone it is just a half, else it is something beside the half.
		return half
	case mag.bit(n - 1):
		return most
	}
	return little
}

// stepsOf counts a dyad's amount in steps of 2^unit, rounded.
func stepsOf(a api.Dyad, unit int, grow func(cut) bool) whole {
	mag, n := whole(a.Mag), unit-a.Exp
	if n <= 0 {
		return mag.left(-n)
	}
	steps := mag.right(n)
	if grow(cut{neg: a.Neg, odd: steps.bit(0), left: restOf(mag, n)}) {
		return steps.plus(whole{1})
	}
	return steps
}

// format says which numbers there are: how many digits they have, of which the lowest is worth 2^low at least, the highest 2^high at most.
type format struct {
	digits int
	low    int
	high   int
}

func binary64() format { return format{digits: 53, low: -1074, high: 1023} }

func binary32() format { return format{digits: 24, low: -149, high: 127} }

// round answers a number for singles too: every one of them is one.
func round(a api.Dyad, f format, mode int) (float64, api.Errno) {
	grow := grows(mode)
	switch {
	case !May(a):
		return 0, api.ErrDyad
	case grow == nil:
		return 0, api.ErrMode
	}
	top := a.Exp + whole(a.Mag).size() - 1
	unit := max(top-f.digits+1, f.low)
	steps := stepsOf(a, unit, grow)
	if unit+steps.size()-1 > f.high {
		return beyond(a.Neg, f, grow), api.OK
	}
	mant := uint64(steps.word(1))<<wordBits | uint64(steps.word(0))
	x, _ := anatomy.Of(api.Parts{Neg: a.Neg, Mant: mant, Exp: unit})
	return x, api.OK
}

// beyond is the greatest number or the infinite one, of which the latter is nearer to all that comes here: to the power of 2 that stands for it, and to what is above that.
func beyond(neg bool, f format, grow func(cut) bool) float64 {
	greatest, _ := anatomy.Of(api.Parts{Neg: neg, Mant: 1<<f.digits - 1, Exp: f.high - f.digits + 1})
	if grow(cut{neg: neg, odd: true, left: most}) {
		return math.Copysign(math.Inf(1), greatest)
	}
	return greatest
}
