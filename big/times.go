package big

import "math/bits"

// few words are multiplied word by word; with more of them it is cheaper to go by halves.
const few = 48

func (x nat) times(y nat) nat {
	if len(x) == 0 || len(y) == 0 {
		return nil
	}
	out := make(nat, len(x)+len(y))
	product(out, x, y)
	return trimmed(out)
}

// product sets z, which has as many words as x and y have in all, each of them 0, to x * y. The last words of x and y may be 0 here.
func product(z, x, y nat) {
	if len(x) < len(y) {
		x, y = y, x
	}
	half := (len(x) + 1) / 2
	switch {
	case len(y) < few:
		byWords(z, x, y)
	case len(y) <= half:
		byPieces(z, x, y, half)
	default:
		byHalves(z, x, y, half)
	}
}

// byWords is the product as on paper.
func byWords(z, x, y nat) {
	for i, w := range y {
		if w != 0 {
			z[i+len(x)] = addTimes(z[i:i+len(x)], x, w)
		}
	}
}

// addTimes adds x * w to z, which has as many words as x, and tells the word that goes beyond.
func addTimes(z, x nat, w uint64) uint64 {
	var carry uint64
	z = z[:len(x)] // so that the compiler sees it, too
	for i, v := range x {
		var c uint64
		high, low := bits.Mul64(v, w)
		low, c = bits.Add64(low, carry, 0)
		high, _ = bits.Add64(high, 0, c)
		z[i], c = bits.Add64(low, z[i], 0)
		carry, _ = bits.Add64(high, 0, c)
	}
	return carry
}

// byPieces multiplies a long x in two pieces by a short y.
func byPieces(z, x, y nat, half int) {
	product(z[:half+len(y)], x[:half], y)
	high := make(nat, len(x)-half+len(y))
	product(high, x[half:], y)
	addInto(z[half:], high)
}

// byHalves is Karatsuba's product: three products of halves in place of four.
func byHalves(z, x, y nat, half int) {
	low, high := z[:2*half], z[2*half:]
	product(low, x[:half], y[:half])
	product(high, x[half:], y[half:])
	space := make(nat, 4*half+4)
	sumX, sumY, middle := space[:half+1], space[half+1:2*half+2], space[2*half+2:]
	copy(sumX, x[:half])
	addInto(sumX, x[half:])
	copy(sumY, y[:half])
	addInto(sumY, y[half:])
	product(middle, sumX, sumY)
	takeFrom(middle, low)
	takeFrom(middle, high)
	addInto(z[half:], trimmed(middle))
}
