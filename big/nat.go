// Package big holds whole numbers and fractions without end: what package exact reckons with.
package big

import (
	"cmp"
	"math/bits"
	"slices"
)

const wordBits = 64

// nat is a whole number from 0 on: its lowest word first, the last one not 0. Once it is made it is never changed: so two of them may share memory.
type nat []uint64

// trimmed takes off the words at the end that are 0.
func trimmed(x nat) nat {
	n := len(x)
	for n > 0 && x[n-1] == 0 {
		n--
	}
	return x[:n]
}

func natOf(w uint64) nat {
	return trimmed(nat{w})
}

// isOne: lowest terms and divisions by 1 are many, and cost nothing if they are seen.
func (x nat) isOne() bool {
	return len(x) == 1 && x[0] == 1
}

func (x nat) bits() int {
	if len(x) == 0 {
		return 0
	}
	return wordBits*(len(x)-1) + bits.Len64(x[len(x)-1])
}

func (x nat) compare(y nat) int {
	if len(x) != len(y) {
		return cmp.Compare(len(x), len(y))
	}
	for i := len(x) - 1; i >= 0; i-- {
		if x[i] != y[i] {
			return cmp.Compare(x[i], y[i])
		}
	}
	return 0
}

func (x nat) plus(y nat) nat {
	if len(x) < len(y) {
		x, y = y, x
	}
	out := make(nat, len(x)+1)
	copy(out, x)
	addInto(out, y)
	return trimmed(out)
}

// addInto adds x to z, which has room for the sum.
func addInto(z, x nat) {
	var carry uint64
	for i, w := range x {
		z[i], carry = bits.Add64(z[i], w, carry)
	}
	for i := len(x); carry != 0; i++ {
		z[i], carry = bits.Add64(z[i], 0, carry)
	}
}

// minus is x - y, of a y that is at most x.
func (x nat) minus(y nat) nat {
	out := slices.Clone(x)
	takeFrom(out, y)
	return trimmed(out)
}

// takeFrom takes x, which is at most z, off z.
func takeFrom(z, x nat) {
	var borrow uint64
	for i, w := range x {
		z[i], borrow = bits.Sub64(z[i], w, borrow)
	}
	for i := len(x); borrow != 0; i++ {
		z[i], borrow = bits.Sub64(z[i], 0, borrow)
	}
}

// left is x * 2^n.
func (x nat) left(n int) nat {
	if len(x) == 0 || n == 0 {
		return x
	}
	words, some := n/wordBits, n%wordBits
	out := make(nat, len(x)+words+1)
	for i, w := range x {
		out[i+words] |= w << some
		out[i+words+1] = w >> (wordBits - some)
	}
	return trimmed(out)
}

// right is x / 2^n, without what is behind the point.
func (x nat) right(n int) nat {
	words, some := n/wordBits, n%wordBits
	if words >= len(x) {
		return nil
	}
	if some == 0 {
		return x[words:]
	}
	out := make(nat, len(x)-words)
	for i := range out {
		out[i] = x[i+words] >> some
		if i+words+1 < len(x) {
			out[i] |= x[i+words+1] << (wordBits - some)
		}
	}
	return trimmed(out)
}

// zeros tells how often 2 divides x, which isn't 0.
func (x nat) zeros() int {
	n := 0
	for x[n] == 0 {
		n++
	}
	return n*wordBits + bits.TrailingZeros64(x[n])
}
