package interval

import (
	"math"
	"math/bits"

	"binnacle/anatomy"
	"binnacle/api"
)

// areEnds tells whether there is an interval with these ends.
func areEnds(lo, hi float64) bool {
	return lo <= hi && lo < math.Inf(1) && hi > math.Inf(-1)
}

// between is the interval with these ends, or the empty one if there is none with them; the ends' noughts are made +0.
func between(lo, hi float64) api.Interval {
	if !areEnds(lo, hi) {
		return Empty()
	}
	return api.Interval{Lo: plus(lo), Hi: plus(hi)}
}

// taken is what an interval that comes in counts as.
func taken(a api.Interval) api.Interval {
	return between(a.Lo, a.Hi)
}

func holdsNone(a api.Interval) bool {
	return a == Empty()
}

func isNought(a api.Interval) bool {
	return a.Lo == 0 && a.Hi == 0
}

// plus is x, its nought +0.
func plus(x float64) float64 {
	if x == 0 {
		return 0
	}
	return x
}

// half is half of lo + hi, rounded once.
func half(lo, hi float64) float64 {
	if s := lo + hi; !math.IsInf(s, 0) {
		// Either the sum is so small that it is exact, or so great that its half is.
		return s / 2
	}
	// Who overflows together is far above the subnormals: the halves are exact.
	return lo/2 + hi/2
}

// side says which of the two numbers around an exact one is taken.
type side bool

const (
	down side = false
	up   side = true
)

// settled is the number on the asked side of an exact one: near, the nearest, or the one beside it. Which of them, is seen by back, what comes of undoing near, and given, what should have come.
// Infinities need no case of their own. A sum or quotient that overflowed comes back infinite, and beside it stands the greatest number. If an end is infinite, near is right: back is a NaN, or just what was given, or beside near stands near again.
func settled(near, back, given float64, to side) float64 {
	switch {
	case to == up && back < given:
		return anatomy.Next(near)
	case to == down && back > given:
		return anatomy.Prev(near)
	}
	return near
}

// sum is x + y; infinities of unlike signs don't come.
func sum(x, y float64, to side) float64 {
	if math.Abs(x) < math.Abs(y) {
		x, y = y, x
	}
	s := x + y
	// The greater one is taken away from the rounded sum without rounding.
	return settled(s, s-x, y, to)
}

// product is x * y; 0 if one is 0, for an infinite end isn't held itself.
func product(x, y float64, to side) float64 {
	if x == 0 || y == 0 {
		return 0
	}
	p, errP := anatomy.Parts(x)
	q, errQ := anatomy.Parts(y)
	if errP != api.OK || errQ != api.OK {
		return float64(x * y)
	}
	high, low := bits.Mul64(p.Mant, q.Mant)
	return rounded(p.Neg != q.Neg, []uint64{low, high}, p.Exp+q.Exp, to)
}

// quotient is x / y, y not below 0; 0 / 0 and infinities by one another don't come.
func quotient(x, y float64, to side) float64 {
	q := x / y
	// x is a number: so a product that is rounded the other way is beyond it just if the exact one is.
	return settled(q, product(q, y, !to), x, to)
}

// root is the root of x, which isn't below 0.
func root(x float64, to side) float64 {
	r := math.Sqrt(x)
	return settled(r, product(r, r, !to), x, to)
}

// power is x to the power of n, n above 0, and odd if x is below 0.
func power(x float64, n int, to side) float64 {
	p, err := anatomy.Parts(x)
	if err != api.OK || p.Mant == 0 {
		return x
	}
	return rounded(p.Neg, wholePower(p.Mant, n), p.Exp*n, to)
}

// divided holds the quotients where b has no number below 0 and some above, or where a is 0 alone.
func divided(a, b api.Interval) api.Interval {
	// The least quotient is that of the least x: by the greatest y where it isn't below 0, else by the least. So turned round for the greatest.
	byLo, byHi := b.Lo, b.Lo
	if a.Lo >= 0 {
		byLo = b.Hi
	}
	if a.Hi <= 0 {
		byHi = b.Hi
	}
	return between(quotient(a.Lo, byLo, down), quotient(a.Hi, byHi, up))
}
