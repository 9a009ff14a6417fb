package sum_test

import (
	"encoding/binary"
	"math"
	"math/big"
	"slices"

	"binnacle/api"
)

// What is tested is held against the chapter's words: its formulas step by step, its exact sums by whole numbers of the library.

// theNaN is the one that is answered.
var theNaN = math.Float64frombits(0x7ff8000000000001)

func finite(x float64) bool { return !math.IsNaN(x) && !math.IsInf(x, 0) }

// canon is a number as it is answered.
func canon(x float64) float64 {
	if math.IsNaN(x) {
		return theNaN
	}
	return x
}

// steps reckons the chapter's formulas step by step, and marks whether a step was not finite.
type steps struct {
	over bool
}

func (s *steps) seen(x float64) float64 {
	s.over = s.over || !finite(x)
	return x
}

//go:noinline
func (s *steps) add(a, b float64) float64 { return s.seen(a + b) }

//go:noinline
func (s *steps) sub(a, b float64) float64 { return s.seen(a - b) }

//go:noinline
func (s *steps) mul(a, b float64) float64 { return s.seen(a * b) }

//go:noinline
func (s *steps) div(a, b float64) float64 { return s.seen(a / b) }

func (s *steps) left(l []float64) float64 {
	t := 0.0
	for _, x := range l {
		t = s.add(t, x)
	}
	return t
}

func (s *steps) pairs(l []float64) float64 {
	if len(l) == 0 {
		return 0
	}
	if len(l) == 1 {
		return l[0]
	}
	h := 1
	for 2*h < len(l) {
		h *= 2
	}
	return s.add(s.pairs(l[:h]), s.pairs(l[h:]))
}

func (s *steps) kahan(l []float64) float64 {
	t, c := 0.0, 0.0
	for _, x := range l {
		y := s.sub(x, c)
		next := s.add(t, y)
		c = s.sub(s.sub(next, t), y)
		t = next
	}
	return t
}

func (s *steps) neumaier(l []float64) float64 {
	t, c := 0.0, 0.0
	for _, x := range l {
		next := s.add(t, x)
		greater, smaller := x, t
		if math.Abs(t) >= math.Abs(x) {
			greater, smaller = t, x
		}
		c = s.add(c, s.add(s.sub(greater, next), smaller))
		t = next
	}
	return s.add(t, c)
}

func (s *steps) dot(a, b []float64) float64 {
	t := 0.0
	for i := range a {
		t = s.add(t, s.mul(a[i], b[i]))
	}
	return t
}

// norm takes finite numbers, few enough.
func (s *steps) norm(l []float64) said {
	m := 0.0
	for _, x := range l {
		m = math.Max(m, math.Abs(x))
	}
	if m == 0 {
		return said{0, api.OK}
	}
	power := 0x1p-1074
	for power <= m/2 {
		power *= 2
	}
	t := 0.0
	for _, x := range l {
		y := s.div(x, power)
		t = s.add(t, s.mul(y, y))
	}
	n := s.mul(s.seen(math.Sqrt(t)), power)
	if s.over {
		return said{0, api.ErrOver}
	}
	return said{n, api.OK}
}

// units is a finite number, counted in 2^-1074.
func units(x float64) *big.Int {
	frac, exp := math.Frexp(x)
	n := big.NewInt(int64(math.Ldexp(frac, 53)))
	if shift := exp - 53 + 1074; shift >= 0 {
		return n.Lsh(n, uint(shift))
	} else {
		return n.Quo(n, new(big.Int).Lsh(big.NewInt(1), uint(-shift)))
	}
}

// total is the exact sum of finite numbers, in 2^-1074.
func total(l []float64) *big.Int {
	out := new(big.Int)
	for _, x := range l {
		out.Add(out, units(x))
	}
	return out
}

// amounts is the exact sum of the magnitudes, in 2^-1074.
func amounts(l []float64) *big.Int {
	out := new(big.Int)
	for _, x := range l {
		out.Add(out, units(math.Abs(x)))
	}
	return out
}

// totalDot is the exact sum of the exact products, in 2^-2148.
func totalDot(a, b []float64) *big.Int {
	out := new(big.Int)
	for i := range a {
		out.Add(out, new(big.Int).Mul(units(a[i]), units(b[i])))
	}
	return out
}

// nearest is the number for n * 2^exp / count, of noughts the one with its sign (+0 of 0).
func nearest(n *big.Int, exp, count int) float64 {
	below := new(big.Int).Lsh(big.NewInt(int64(count)), uint(-exp))
	x, _ := new(big.Rat).SetFrac(new(big.Int).Abs(n), below).Float64()
	if n.Sign() < 0 {
		return -x
	}
	return x
}

// notFinite tells what a sum is of which some terms are infinities or NaNs; false, if none is.
func notFinite(l []float64) (float64, bool) {
	up, down, none := false, false, false
	for _, x := range l {
		up, down, none = up || math.IsInf(x, 1), down || math.IsInf(x, -1), none || math.IsNaN(x)
	}
	switch {
	case none || up && down:
		return theNaN, true
	case up:
		return inf, true
	case down:
		return -inf, true
	}
	return 0, false
}

func onlyMinus(l []float64) bool {
	return len(l) > 0 && !slices.ContainsFunc(l, func(x float64) bool { return !same(x, minus) })
}

func exact(l []float64) said {
	if len(l) > 4096 {
		return said{0, api.ErrLong}
	}
	if x, found := notFinite(l); found {
		return said{x, api.OK}
	}
	if onlyMinus(l) {
		return said{minus, api.OK}
	}
	return said{nearest(total(l), -1074, 1), api.OK}
}

func dotExact(a, b []float64) said {
	if len(a) != len(b) {
		return said{0, api.ErrShape}
	}
	if len(a) > 4096 {
		return said{0, api.ErrLong}
	}
	var products []float64
	for i, x := range a {
		switch y := b[i]; {
		case math.IsNaN(x) || math.IsNaN(y):
			products = append(products, theNaN)
		case finite(x) && finite(y):
		case x == 0 || y == 0:
			products = append(products, theNaN)
		default:
			products = append(products, math.Copysign(inf, x)*math.Copysign(1, y))
		}
	}
	if x, found := notFinite(products); found {
		return said{x, api.OK}
	}
	return said{nearest(totalDot(a, b), -2148, 1), api.OK}
}

func mean(l []float64) said {
	switch {
	case len(l) == 0:
		return said{0, api.ErrNothing}
	case len(l) > 4096:
		return said{0, api.ErrLong}
	case slices.ContainsFunc(l, func(x float64) bool { return !finite(x) }):
		return said{0, api.ErrNumber}
	case onlyMinus(l):
		return said{minus, api.OK}
	}
	return said{nearest(total(l), -1074, len(l)), api.OK}
}

// dyadUnits is a dyad in 2^-1074; false, if it isn't written in its one way or has digits below that.
func dyadUnits(d api.Dyad) (*big.Int, bool) {
	n := len(d.Mag)
	if n == 0 {
		return new(big.Int), !d.Neg && d.Exp == 0
	}
	if d.Mag[0]%2 == 0 || d.Mag[n-1] == 0 || d.Exp < -1074 {
		return nil, false
	}
	var bytes []byte
	for _, word := range slices.Backward(d.Mag) {
		bytes = binary.BigEndian.AppendUint32(bytes, word)
	}
	out := new(big.Int).SetBytes(bytes)
	if out.Lsh(out, uint(d.Exp+1074)); d.Neg {
		out.Neg(out)
	}
	return out, true
}
