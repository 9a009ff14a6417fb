package clock

import (
	"math/bits"

	"binnacle/api"
)

const (
	billion = 1000000000
	half    = 1 << 31 // half of what a stamp goes round
	far     = 1 << 62 // as far as any answer of this layer may lie from 0
)

func beyond(n, limit int64) bool { return n < -limit || n > limit }

func isCount(n int64) bool { return !beyond(n, api.MaxCount) }

func isTime(t int64) bool { return !beyond(t, api.MaxTime) }

// limited is c with each of its numbers brought within its limits: a clock that may be stays as it is.
func limited(c api.Clock) api.Clock {
	return api.Clock{
		Offset: min(max(c.Offset, -api.MaxTime), api.MaxTime),
		Num:    min(max(c.Num, 1), api.MaxRate),
		Den:    min(max(c.Den, 1), api.MaxRate),
	}
}

// timeOf is Time without its limits, of a clock that may be; what is beyond far may be told as another such number.
func timeOf(c api.Clock, count int64) int64 {
	return c.Offset + floor(count, c.Num, c.Den)
}

// floor is the floor of a * b / c, where b and c are above 0; beyond far it is told as one just beyond, so that sums with it don't wrap.
func floor(a, b, c int64) int64 {
	q, rest := quotient(magnitude(a), uint64(b), uint64(c))
	switch {
	case a >= 0:
		return int64(q)
	case rest == 0:
		return -int64(q)
	default:
		return -int64(q) - 1
	}
}

// quotient is a * b / c, cut short to a whole number, and what is left over; above far it is told as far + 1.
func quotient(a, b, c uint64) (q, rest uint64) {
	hi, lo := bits.Mul64(a, b)
	// A quotient of more than 64 bits makes Div64 panic.
	if hi >= c {
		return far + 1, 0
	}
	q, rest = bits.Div64(hi, lo, c)
	return min(q, far+1), rest
}

func magnitude(n int64) uint64 {
	if n < 0 {
		return -uint64(n)
	}
	return uint64(n)
}

// nearestStep is the shortest way round to a stamp that is so much further on; just half way round it goes on, not back.
func nearestStep(on uint32) int64 {
	if on <= half {
		return int64(on)
	}
	return int64(on) - 2*half
}

// inLowestTerms is a clock of the rate num / den, both above 0, without an offset.
func inLowestTerms(num, den int64) api.Clock {
	a, b := num, den
	for b != 0 {
		a, b = b, a%b
	}
	return api.Clock{Num: num / a, Den: den / a}
}

func checkPairs(l []api.Pair) api.Errno {
	if len(l) > api.MaxPairs {
		return api.ErrLong
	}
	for _, p := range l {
		if !isCount(p.Count) || !isTime(p.Time) {
			return api.ErrRange
		}
	}
	if len(l) < 2 || !rising(l) {
		return api.ErrPairs
	}
	return api.OK
}

// rising tells if counts and times rise strictly from pair to pair.
func rising(l []api.Pair) bool {
	for i := range len(l) - 1 {
		if l[i].Count >= l[i+1].Count || l[i].Time >= l[i+1].Time {
			return false
		}
	}
	return true
}

// worstMiss is by how much c's times miss those of the pairs at the worst.
func worstMiss(c api.Clock, l []api.Pair) int64 {
	worst := int64(0)
	for _, p := range l {
		miss := timeOf(c, p.Count) - p.Time
		worst = max(worst, miss, -miss)
	}
	return worst
}
