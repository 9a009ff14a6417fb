package big

import (
	"math/bits"
	"slices"
)

// over is the whole quotient x / y and what is left; y isn't 0.
func (x nat) over(y nat) (nat, nat) {
	switch {
	case x.compare(y) < 0:
		return nil, x
	case len(y) == 1:
		quotient, left := x.overWord(y[0])
		return quotient, natOf(left)
	}
	return x.overLong(y)
}

func (x nat) overWord(w uint64) (nat, uint64) {
	out := slices.Clone(x)
	left := divideBy(out, w)
	return trimmed(out), left
}

// divideBy makes of x its quotient by w, and tells what is left.
func divideBy(x nat, w uint64) uint64 {
	var left uint64
	for i := len(x) - 1; i >= 0; i-- {
		x[i], left = bits.Div64(left, x[i], w)
	}
	return left
}

// overLong divides as on paper, word by word, by a y of at least two words that is at most x.
func (x nat) overLong(y nat) (nat, nat) {
	// With its first bit set the first words of y guess a word of the quotient by at most 2 too great.
	lift := bits.LeadingZeros64(y[len(y)-1])
	y = y.left(lift)
	left := make(nat, len(x)+1)
	copy(left, x.left(lift))
	out := make(nat, len(x)-len(y)+1)
	for i := len(out) - 1; i >= 0; i-- {
		out[i] = takeOff(left[i:i+len(y)+1], y)
	}
	return trimmed(out), trimmed(left).right(lift)
}

// takeOff takes y off left as often as it goes, and tells how often.
func takeOff(left, y nat) uint64 {
	n := len(y)
	often := guess(left[n], left[n-1], left[n-2], y[n-1], y[n-2])
	borrow := subTimes(left[:n], y, often)
	var under uint64
	left[n], under = bits.Sub64(left[n], borrow, 0)
	if under != 0 {
		often--
		var carry uint64
		for i, w := range y {
			left[i], carry = bits.Add64(left[i], w, carry)
		}
		left[n] += carry
	}
	return often
}

// guess is the quotient of the first three words by the first two of the divisor, or one word's most; by at most 1 too great for the whole of them.
func guess(a, b, c, y, z uint64) uint64 {
	if a >= y {
		return 1<<wordBits - 1
	}
	often, left := bits.Div64(a, b, y)
	for {
		high, low := bits.Mul64(often, z)
		if high < left || high == left && low <= c {
			return often
		}
		often--
		var carry uint64
		left, carry = bits.Add64(left, y, 0)
		if carry != 0 {
			return often
		}
	}
}

// subTimes takes x * w off z, which has as many words as x, and tells the word that is to be taken off beyond.
func subTimes(z, x nat, w uint64) uint64 {
	var carry uint64
	z = z[:len(x)]
	for i, v := range x {
		var c uint64
		high, low := bits.Mul64(v, w)
		low, c = bits.Add64(low, carry, 0)
		high, _ = bits.Add64(high, 0, c)
		z[i], c = bits.Sub64(z[i], low, 0)
		carry, _ = bits.Add64(high, 0, c)
	}
	return carry
}

// exact is x / y, of a y that divides x.
func (x nat) exact(y nat) nat {
	if len(x) == 0 {
		return nil
	}
	twos := y.zeros()
	x, y = x.right(twos), y.right(twos)
	if y.isOne() {
		return x
	}
	return x.exactOdd(y)
}

// exactOdd reckons the quotient by an odd y from the lowest word up: what lies above its words never counts, and nothing is guessed.
func (x nat) exactOdd(y nat) nat {
	words := len(x) - len(y) + 1
	out, left := make(nat, words), slices.Clone(x[:words])
	inverse := inverseWord(y[0])
	for i := range out {
		out[i] = left[i] * inverse
		n := min(len(y), words-i)
		borrow := subTimes(left[i:i+n], y[:n], out[i])
		for j := i + n; j < words && borrow != 0; j++ {
			left[j], borrow = bits.Sub64(left[j], borrow, 0)
		}
	}
	return trimmed(out)
}

// inverseWord is the word that, times w, which is odd, is 1 in its lowest 64 bits.
func inverseWord(w uint64) uint64 {
	// The square of an odd number ends with the bits 001: so w is right in 3 bits, and each step doubles them.
	out := w
	for range 5 {
		out *= 2 - w*out
	}
	return out
}
