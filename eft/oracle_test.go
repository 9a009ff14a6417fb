package eft_test

import (
	"math"
	"math/big"

	"binnacle/api"
)

// theNaN is the one that is answered.
var theNaN = math.Float64frombits(0x7ff8000000000001)

// steps reckons the chapter's formulas step by step, and marks whether a step was not finite.
type steps struct {
	over bool
}

func (s *steps) seen(x float64) float64 {
	if math.IsNaN(x) || math.IsInf(x, 0) {
		s.over = true
	}
	return x
}

//go:noinline
func (s *steps) add(a, b float64) float64 { return s.seen(a + b) }

//go:noinline
func (s *steps) sub(a, b float64) float64 { return s.seen(a - b) }

//go:noinline
func (s *steps) mul(a, b float64) float64 { return s.seen(a * b) }

func (s *steps) two(a, b float64) (float64, float64) {
	sum := s.add(a, b)
	t := s.sub(sum, a)
	return sum, s.add(s.sub(a, s.sub(sum, t)), s.sub(b, t))
}

func (s *steps) quick(a, b float64) (float64, float64) {
	sum := s.add(a, b)
	return sum, s.sub(b, s.sub(sum, a))
}

func (s *steps) split(a float64) (float64, float64) {
	c := s.mul(134217729, a)
	h := s.sub(c, s.sub(c, a))
	return h, s.sub(a, h)
}

func (s *steps) prod(a, b float64) (float64, float64) {
	p := s.mul(a, b)
	h, l := s.split(a)
	i, k := s.split(b)
	inner := s.sub(p, s.mul(h, i))
	inner = s.sub(inner, s.mul(l, i))
	inner = s.sub(inner, s.mul(h, k))
	return p, s.sub(s.mul(l, k), inner)
}

// said is two numbers as they are answered.
func said(a, b float64) [2]float64 {
	out := [2]float64{a, b}
	for i, x := range out {
		if math.IsNaN(x) {
			out[i] = theNaN
		}
	}
	return out
}

// pair is two numbers as they were answered.
func pair(a, b float64) [2]float64 { return [2]float64{a, b} }

func samePair(a, b [2]float64) bool { return same(a[0], b[0]) && same(a[1], b[1]) }

// alikeButNoughts tells that two pairs have the same bits, but for the sign of noughts.
func alikeButNoughts(a, b [2]float64) bool {
	for i := range a {
		if !same(a[i], b[i]) && (a[i] != 0 || b[i] != 0) {
			return false
		}
	}
	return true
}

// units is a finite number, counted in 2^-1074.
func units(x float64) *big.Int {
	frac, exp := math.Frexp(x)
	n := big.NewInt(int64(math.Ldexp(frac, 53)))
	if shift := exp - 53 + 1074; shift >= 0 {
		return n.Lsh(n, uint(shift))
	} else {
		return n.Quo(n, new(big.Int).Lsh(big.NewInt(1), uint(-shift)))
	}
}

// total is the exact sum of numbers, in 2^-1074.
func total(l ...float64) *big.Int {
	out := new(big.Int)
	for _, x := range l {
		out.Add(out, units(x))
	}
	return out
}

// product is an exact one, in 2^-2148.
func product(a, b float64) *big.Int {
	return new(big.Int).Mul(units(a), units(b))
}

// finer turns units of 2^-1074 into those of 2^-2148.
func finer(n *big.Int) *big.Int { return new(big.Int).Lsh(n, 1074) }

// holds tells whether a product is a whole multiple of 2^-1074.
func holds(n *big.Int) bool { return n.Sign() == 0 || n.TrailingZeroBits() >= 1074 }

// lost is a * b - p, taken exactly and rounded once.
func lost(a, b, p float64) float64 {
	if !finite(a) || !finite(b) || !finite(p) {
		return theNaN
	}
	n := product(a, b)
	n.Sub(n, finer(units(p)))
	if n.Sign() == 0 {
		return 0
	}
	// A big.Float keeps the sign where it rounds to 0.
	f := new(big.Float).SetPrec(5000).SetInt(n)
	x, _ := f.SetMantExp(f, -2148).Float64()
	return x
}

func finite(x float64) bool { return !math.IsNaN(x) && !math.IsInf(x, 0) }

// lastDigit is the chapter's, in 2^-1074.
func lastDigit(x float64) *big.Int {
	return new(big.Int).Lsh(big.NewInt(1), units(x).TrailingZeroBits())
}

// whyNot is the error of a list that should be an expansion.
func whyNot(e []float64) api.Errno {
	for _, x := range e {
		if !finite(x) {
			return api.ErrNumber
		}
	}
	if len(e) > 64 {
		return api.ErrLong
	}
	for i, x := range e {
		if x == 0 || i > 0 && units(e[i-1]).CmpAbs(lastDigit(x)) >= 0 {
			return api.ErrExpansion
		}
	}
	return api.OK
}

// laid is what a list is when noughts are not laid, beside the errors of the steps.
func (s *steps) laid(l []float64) listed {
	var out []float64
	for _, x := range l {
		if x != 0 {
			out = append(out, x)
		}
	}
	switch {
	case s.over:
		return listed{nil, api.ErrOver}
	case len(out) > 64:
		return listed{nil, api.ErrLong}
	}
	return listed{out, api.OK}
}

func grown(e []float64, b float64) listed {
	if err := whyNot(e); err != api.OK {
		return listed{nil, err}
	}
	if !finite(b) {
		return listed{nil, api.ErrNumber}
	}
	var s steps
	var l []float64
	q, h := b, 0.0
	for _, x := range e {
		q, h = s.two(q, x)
		l = append(l, h)
	}
	return s.laid(append(l, q))
}

func added(e, f []float64) listed {
	for _, l := range [][]float64{e, f} {
		if err := whyNot(l); err != api.OK {
			return listed{nil, err}
		}
	}
	out := listed{append([]float64(nil), e...), api.OK}
	for _, x := range f {
		if out = grown(out.l, x); out.err != api.OK {
			break
		}
	}
	return out
}

func scaled(e []float64, b float64) listed {
	if err := whyNot(e); err != api.OK {
		return listed{nil, err}
	}
	if !finite(b) {
		return listed{nil, api.ErrNumber}
	}
	for _, x := range e {
		if !holds(product(x, b)) {
			return listed{nil, api.ErrLost}
		}
	}
	if b == 0 || len(e) == 0 {
		return listed{nil, api.OK}
	}
	var s steps
	q, h := s.prod(e[0], b)
	l := []float64{h}
	for _, x := range e[1:] {
		upper, lower := s.prod(x, b)
		q, h = s.two(q, lower)
		l = append(l, h)
		q, h = s.quick(upper, q)
		l = append(l, h)
	}
	return s.laid(append(l, q))
}

func compressed(e []float64) listed {
	if err := whyNot(e); err != api.OK || len(e) == 0 {
		return listed{nil, err}
	}
	var s steps
	var aside, l []float64
	q := e[len(e)-1]
	for i := len(e) - 2; i >= 0; i-- {
		sum, rest := s.quick(q, e[i])
		q = sum
		if rest != 0 {
			aside = append(aside, q)
			q = rest
		}
	}
	for i := len(aside) - 1; i >= 0; i-- {
		sum, rest := s.quick(aside[i], q)
		q = sum
		l = append(l, rest)
	}
	return s.laid(append(l, q))
}
