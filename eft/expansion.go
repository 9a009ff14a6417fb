package eft

import (
	"math"

	"binnacle/anatomy"
	"binnacle/api"
)

// leastExp is the exponent of the last digit that a number can have.
const leastExp = -1074

// refusal is why a list is no expansion, or OK.
func refusal(e []float64) api.Errno {
	switch {
	case !anatomy.Finite(e):
		return api.ErrNumber
	case len(e) > api.MaxExpansion:
		return api.ErrLong
	case !stands(e):
		return api.ErrExpansion
	}
	return api.OK
}

// refusalWith is why a list and a number beside it can't be taken.
func refusalWith(e []float64, b float64) api.Errno {
	err := refusal(e)
	if err == api.OK && !anatomy.Finite([]float64{b}) {
		return api.ErrNumber
	}
	return err
}

// stands tells whether no number of a list is 0 or reaches into the digits of the next.
func stands(e []float64) bool {
	for i := range len(e) {
		if e[i] == 0 {
			return false
		}
		if i > 0 && math.Abs(e[i-1]) >= lastDigit(e[i]) {
			return false
		}
	}
	return true
}

// lastDigit is the greatest power of 2 of which a number that isn't 0 is a whole multiple.
func lastDigit(x float64) float64 {
	return math.Ldexp(1, lastExp(x))
}

func lastExp(x float64) int {
	p, _ := anatomy.Parts(x)
	return p.Exp
}

// isLost tells whether a product of b and a number of e has digits that no number can have: if one has, then that of the first, whose last digit is the least.
func isLost(e []float64, b float64) bool {
	return b != 0 && len(e) > 0 && lastExp(e[0])+lastExp(b) < leastExp
}

// lay puts numbers behind a list, but for noughts.
func lay(out []float64, numbers ...float64) []float64 {
	for _, x := range numbers {
		if x != 0 {
			out = append(out, x)
		}
	}
	return out
}

// told is what was laid, if it can be answered. No step's number that isn't finite can hide: whatever is reckoned from it isn't finite either, and is laid in the end.
func told(out []float64) ([]float64, api.Errno) {
	switch {
	case !anatomy.Finite(out):
		return nil, api.ErrOver
	case len(out) > api.MaxExpansion:
		return nil, api.ErrLong
	}
	return out, api.OK
}

// gather adds up an expansion from its last number down: what it comes to, and what was set aside on the way.
func gather(e []float64) (float64, []float64) {
	var aside []float64
	top := len(e) - 1
	q := e[top]
	for i := range top {
		s, r := Quick(q, e[top-1-i])
		if r == 0 {
			q = s
			continue
		}
		aside = append(aside, s)
		q = r
	}
	return q, aside
}
