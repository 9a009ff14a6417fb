package dyad

import (
	"cmp"
	"math/bits"
)

// whole is a whole number without end, not below 0: its lowest 32 bits first, its last word not 0. Nothing here changes one: each answer is a list of its own.
type whole []uint32

const wordBits = 32

// trimmed is the whole number that words stand for.
func trimmed(words []uint32) whole {
	n := len(words)
	for n > 0 && words[n-1] == 0 {
		n--
	}
	return words[:n]
}

// size counts the bits.
func (w whole) size() int {
	if len(w) == 0 {
		return 0
	}
	return (len(w)-1)*wordBits + bits.Len32(w[len(w)-1])
}

func (w whole) bit(n int) bool {
	return n/wordBits < len(w) && w[n/wordBits]>>(n%wordBits)&1 == 1
}

// word is the word at a place, as if there were zeros behind the last one.
func (w whole) word(i int) uint32 {
	if i < len(w) {
		return w[i]
	}
	return 0
}

func (w whole) compare(v whole) int {
	if len(w) != len(v) {
		return cmp.Compare(len(w), len(v))
	}
	for i := len(w) - 1; i >= 0; i-- {
		if w[i] != v[i] {
			return cmp.Compare(w[i], v[i])
		}
	}
	return 0
}

func (w whole) plus(v whole) whole {
	out := make([]uint32, max(len(w), len(v))+1)
	var carry uint32
	for i := range out {
		out[i], carry = bits.Add32(w.word(i), v.word(i), carry)
	}
	return trimmed(out)
}

// minus takes a v that isn't above w.
func (w whole) minus(v whole) whole {
	out := make([]uint32, len(w))
	var borrow uint32
	for i := range out {
		out[i], borrow = bits.Sub32(w[i], v.word(i), borrow)
	}
	return trimmed(out)
}

func (w whole) times(v whole) whole {
	out := make([]uint32, len(w)+len(v))
	for i, x := range w {
		// A product of words with two words more just has room in 64 bits.
		var carry uint64
		for j, y := range v {
			carry += uint64(x)*uint64(y) + uint64(out[i+j])
			out[i+j] = uint32(carry)
			carry >>= wordBits
		}
		out[i+len(v)] = uint32(carry)
	}
	return trimmed(out)
}

// left is w * 2^n.
func (w whole) left(n int) whole {
	skip, shift := n/wordBits, n%wordBits
	out := make([]uint32, len(w)+skip+1)
	var carry uint64
	for i, x := range w {
		carry |= uint64(x) << shift
		out[skip+i] = uint32(carry)
		carry >>= wordBits
	}
	out[len(w)+skip] = uint32(carry)
	return trimmed(out)
}

// right is w / 2^n without what is left over.
func (w whole) right(n int) whole {
	skip, shift := n/wordBits, n%wordBits
	if skip >= len(w) {
		return nil
	}
	out := make([]uint32, len(w)-skip)
	for i := range out {
		both := uint64(w.word(skip+i+1))<<wordBits | uint64(w[skip+i])
		out[i] = uint32(both >> shift)
	}
	return trimmed(out)
}
