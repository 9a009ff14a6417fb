package interval_test

import (
	"math"
	"math/big"

	"binnacle/api"
)

// What is tested is held against the chapter's words: real numbers are taken out of the intervals, all that comes of them is reckoned in fractions, and the closure of that is what must be answered. In each part of an interval, on either side of 0, the operations rise or fall throughout: so what comes of a part's ends are the ends of what comes of it. Where an end is infinite, or where 0 may not be reached, a real number stands for it that is so far out that its sums, products and quotients with numbers are none any more.

// real is n / d, not in lowest terms, d above 0.
type real struct {
	n, d *big.Int
}

func realOf(x float64) real {
	q := new(big.Rat).SetFloat64(x)
	return real{q.Num(), q.Denom()}
}

// far is a real number far beyond the greatest one, small one far below the least; with a number times or by them they still are.
var (
	far   = real{new(big.Int).Lsh(big.NewInt(1), 2200), big.NewInt(1)}
	small = real{big.NewInt(1), new(big.Int).Lsh(big.NewInt(1), 2200)}
)

func product(a, b *big.Int) *big.Int { return new(big.Int).Mul(a, b) }

func (a real) neg() real { return real{new(big.Int).Neg(a.n), a.d} }

func (a real) abs() real { return real{new(big.Int).Abs(a.n), a.d} }

func (a real) add(b real) real {
	return real{new(big.Int).Add(product(a.n, b.d), product(b.n, a.d)), product(a.d, b.d)}
}

func (a real) sub(b real) real { return a.add(b.neg()) }

func (a real) mul(b real) real { return real{product(a.n, b.n), product(a.d, b.d)} }

// div takes a b that isn't 0.
func (a real) div(b real) real {
	if b.n.Sign() < 0 {
		return a.neg().div(b.neg())
	}
	return real{product(a.n, b.d), product(a.d, b.n)}
}

func (a real) pow(n int) real {
	e := big.NewInt(int64(n))
	return real{new(big.Int).Exp(a.n, e, nil), new(big.Int).Exp(a.d, e, nil)}
}

func (a real) cmp(b real) int { return product(a.n, b.d).Cmp(product(b.n, a.d)) }

// above holds a real number against a number, which may be infinite.
func (a real) above(x float64) bool {
	return !math.IsInf(x, 1) && (math.IsInf(x, -1) || a.cmp(realOf(x)) > 0)
}

func (a real) below(x float64) bool { return a.neg().above(-x) }

// nearest is the number for it; a nought is +0, here and below.
func (a real) nearest() float64 {
	x, _ := new(big.Rat).SetFrac(a.n, a.d).Float64()
	if x == 0 {
		return 0
	}
	return x
}

// floor is the greatest number that isn't above; -infinity, if there is none.
func (a real) floor() float64 {
	x := a.nearest()
	if a.below(x) {
		x = prev(x)
	}
	return x
}

// ceil is the least number that isn't below; +infinity, if there is none.
func (a real) ceil() float64 {
	x := a.nearest()
	if a.above(x) {
		x = next(x)
	}
	if x == 0 {
		return 0
	}
	return x
}

// holdsReal tells whether an interval holds a real number.
func holdsReal(a api.Interval, x real) bool { return holds(a) && !x.below(a.Lo) && !x.above(a.Hi) }

// outermost are real numbers that an interval holds: of each part of it on either side of 0 those at its ends.
func outermost(a api.Interval) []real {
	zero := realOf(0)
	var out []real
	for _, x := range []real{far.neg(), small.neg(), zero, small, far} {
		if holdsReal(a, x) {
			out = append(out, x)
		}
	}
	for _, x := range []float64{a.Lo, a.Hi} {
		if holds(a) && !math.IsInf(x, 0) && x != 0 {
			out = append(out, realOf(x))
		}
	}
	return out
}

// closure is that of some real numbers.
func closure(l []real) api.Interval {
	if len(l) == 0 {
		return empty
	}
	lo, hi := l[0], l[0]
	for _, x := range l {
		if x.cmp(lo) < 0 {
			lo = x
		}
		if x.cmp(hi) > 0 {
			hi = x
		}
	}
	return plain(iv(lo.floor(), hi.ceil()))
}

// allOf is what comes of real numbers of one interval.
func allOf(a api.Interval, do func(x real) real) []real {
	var out []real
	for _, x := range outermost(a) {
		out = append(out, do(x))
	}
	return out
}

// allOfTwo is what comes of real numbers of two intervals.
func allOfTwo(a, b api.Interval, do func(x, y real) real) []real {
	var out []real
	for _, x := range outermost(a) {
		for _, y := range outermost(b) {
			out = append(out, do(x, y))
		}
	}
	return out
}

func sums(a, b api.Interval) []real { return allOfTwo(a, b, real.add) }

func differences(a, b api.Interval) []real { return allOfTwo(a, b, real.sub) }

func products(a, b api.Interval) []real { return allOfTwo(a, b, real.mul) }

// quotients leaves out those by 0.
func quotients(a, b api.Interval) []real {
	var out []real
	for _, y := range outermost(b) {
		if y.n.Sign() != 0 {
			out = append(out, allOf(a, func(x real) real { return x.div(y) })...)
		}
	}
	return out
}

func powers(a api.Interval, n int) []real {
	return allOf(a, func(x real) real { return x.pow(n) })
}

// roots is the closure of the roots: its ends are searched among the numbers by their squares.
func roots(a api.Interval) api.Interval {
	if !holds(a) || a.Hi < 0 {
		return empty
	}
	square := func(x float64) real { return realOf(x).mul(realOf(x)) }
	lo := math.Sqrt(max(a.Lo, 0))
	for square(lo).above(max(a.Lo, 0)) {
		lo = prev(lo)
	}
	for !square(next(lo)).above(max(a.Lo, 0)) {
		lo = next(lo)
	}
	if math.IsInf(a.Hi, 1) {
		return plain(iv(lo, inf))
	}
	hi := math.Sqrt(a.Hi)
	for square(hi).below(a.Hi) {
		hi = next(hi)
	}
	for hi > 0 && !square(prev(hi)).below(a.Hi) {
		hi = prev(hi)
	}
	return plain(iv(lo, hi))
}

// middle is the chapter's of an interval that holds numbers.
func middle(a api.Interval) float64 {
	switch below, above := math.IsInf(a.Lo, -1), math.IsInf(a.Hi, 1); {
	case below && above:
		return 0
	case above:
		return most
	case below:
		return -most
	}
	return realOf(a.Lo).add(realOf(a.Hi)).div(realOf(2)).nearest()
}

// reach is how far it is to the farther end, rounded up.
func reach(a api.Interval, from float64) float64 {
	if math.IsInf(a.Lo, 0) || math.IsInf(a.Hi, 0) {
		return inf
	}
	left, right := realOf(from).sub(realOf(a.Lo)), realOf(a.Hi).sub(realOf(from))
	return max(left.ceil(), right.ceil())
}

// span is how far it is from end to end, rounded up.
func span(a api.Interval) float64 {
	if math.IsInf(a.Lo, 0) || math.IsInf(a.Hi, 0) {
		return inf
	}
	return realOf(a.Hi).sub(realOf(a.Lo)).ceil()
}
