package big

import (
	"math/bits"
	"slices"
)

// gcd is the greatest number that divides both of two numbers that aren't 0. If it has fewer than least bits, it need not be found: then the answer is false.
func gcd(x, y nat, least int) (nat, bool) {
	twosX, twosY := x.zeros(), y.zeros()
	twos := min(twosX, twosY)
	out, found := oddGCD(x.right(twosX), y.right(twosY), least-twos)
	return out.left(twos), found
}

// oddGCD is that of odd numbers, by Lehmer: the first words of both tell how a run of Euclid's steps goes, and the whole numbers take it at once.
func oddGCD(x, y nat, least int) (nat, bool) {
	if x.compare(y) < 0 {
		x, y = y, x
	}
	// What stands below a dyadic number comes to this: it is the common case.
	if y.isOne() {
		return y, least <= 1
	}
	// The runs are many: each writes into the memory of what went into the one ahead.
	spare := [2]nat{make(nat, len(y)), make(nat, len(y))}
	x, y = slices.Clone(x), slices.Clone(y)
	for len(y) > 1 {
		// What divides both is at most the smaller one.
		if y.bits() < least {
			return nil, false
		}
		steps := foretold(x, y)
		if steps.b == 0 { // at most one step is sure
			_, left := x.over(y)
			x, y = y, left
			continue
		}
		next, after := steps.taken(x, y, spare)
		spare = [2]nat{x, y}
		x, y = next, after
	}
	if len(y) == 1 {
		_, left := x.overWord(y[0])
		x = natOf(wordGCD(y[0], left))
	}
	return x, x.bits() >= least
}

func wordGCD(x, y uint64) uint64 {
	for y != 0 {
		x, y = y, x%y
	}
	return x
}

// run is some of Euclid's steps at once: of x and y they make a x - b y and d y - c x, or, if the steps are odd in number, these with the other signs.
type run struct {
	a, b, c, d uint64
	odd        bool
}

// foretold are the steps that the first 64 bits of x and those of y at the same place surely tell (x at least y, y of two words at least): as far as Collins' condition holds, a quotient of what is cut off is that of the whole numbers.
func foretold(x, y nat) run {
	n := len(x)
	lift := bits.LeadingZeros64(x[n-1])
	first := x[n-1]<<lift | x[n-2]>>(wordBits-lift)
	var second uint64
	switch len(y) {
	case n:
		second = y[n-1]<<lift | y[n-2]>>(wordBits-lift)
	case n - 1:
		second = y[n-2] >> (wordBits - lift)
	}
	out := run{c: 1, odd: true}
	nextA, nextB := uint64(0), uint64(1)
	for second >= nextB && first-second >= out.d+nextB {
		often := first / second
		first, second = second, first-often*second
		out.a, out.c, nextA = out.c, nextA, out.c+often*nextA
		out.b, out.d, nextB = out.d, nextB, out.d+often*nextB
		out.odd = !out.odd
	}
	return out
}

// taken are x and y behind the steps, two or more, in the spare memory. Both are below y then: so its words are all that is reckoned.
func (r run) taken(x, y nat, spare [2]nat) (nat, nat) {
	n := len(y)
	if r.odd {
		return difference(spare[0][:n], y, x, r.b, r.a), difference(spare[1][:n], x, y, r.c, r.d)
	}
	return difference(spare[0][:n], x, y, r.a, r.b), difference(spare[1][:n], y, x, r.d, r.c)
}

// difference is the lowest words of x * a - y * b, as many as z has; x and y have no fewer.
func difference(z, x, y nat, a, b uint64) nat {
	var carryX, carryY, borrow, c uint64
	x, y = x[:len(z)], y[:len(z)]
	for i := range z {
		highX, lowX := bits.Mul64(x[i], a)
		lowX, c = bits.Add64(lowX, carryX, 0)
		carryX, _ = bits.Add64(highX, 0, c)
		highY, lowY := bits.Mul64(y[i], b)
		lowY, c = bits.Add64(lowY, carryY, 0)
		carryY, _ = bits.Add64(highY, 0, c)
		z[i], borrow = bits.Sub64(lowX, lowY, borrow)
	}
	return trimmed(z)
}
