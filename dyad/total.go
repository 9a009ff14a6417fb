package dyad

import (
	"binnacle/anatomy"
	"binnacle/api"
)

// Every number is a whole count of 2^-1074 and below 2^1024, every product of two a count of 2^-2148 and below 2^2048. The room is for that, and 64 bits more for what any list carries up.
const (
	totalExp   = -2 * 1074
	totalWords = (2*1024-totalExp+64)/wordBits + 1
)

// total adds up exactly, in place: what is above 0 and what is below are kept apart, so that only carries go up.
type total struct {
	above [totalWords]uint32
	below [totalWords]uint32
}

// put adds (high * 2^64 + low) * 2^exp, or takes it off.
func (t *total) put(neg bool, high, low uint64, exp int) {
	into := &t.above
	if neg {
		into = &t.below
	}
	amount := [...]uint32{uint32(low), uint32(low >> wordBits), uint32(high), uint32(high >> wordBits)}
	skip, shift := (exp-totalExp)/wordBits, (exp-totalExp)%wordBits
	var carry, upper uint64
	for i := skip; i < totalWords; i++ {
		if i-skip < len(amount) {
			upper |= uint64(amount[i-skip]) << shift
		} else if carry == 0 && upper == 0 {
			return
		}
		carry += uint64(into[i]) + uint64(uint32(upper))
		into[i] = uint32(carry)
		carry >>= wordBits
		upper >>= wordBits
	}
}

func (t *total) dyad() (api.Dyad, api.Errno) {
	above, below := trimmed(t.above[:]), trimmed(t.below[:])
	if above.compare(below) < 0 {
		return written(true, below.minus(above), totalExp)
	}
	return written(false, above.minus(below), totalExp)
}

// partsOf is anatomy's parts of a number that is known to be finite.
func partsOf(x float64) api.Parts {
	p, _ := anatomy.Parts(x)
	return p
}
