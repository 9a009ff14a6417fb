package big

import (
	"math/bits"
	"slices"
	"strings"
)

// chunk is as many decimal digits as one word holds; ten is 10 to it.
const (
	chunk = 19
	ten   = 10_000_000_000_000_000_000
)

// natRead is the number of decimal digits: nothing else may stand in the text.
func natRead(digits string) nat {
	out := make(nat, 0, len(digits)/chunk+1)
	for len(digits) > 0 {
		// The first piece takes what the others leave, so that these are full.
		n := (len(digits)-1)%chunk + 1
		out = timesPlus(out, ten, wordRead(digits[:n]))
		digits = digits[n:]
	}
	return out
}

func wordRead(digits string) uint64 {
	var out uint64
	for i := range len(digits) {
		out = 10*out + uint64(digits[i]-'0')
	}
	return out
}

// timesPlus is x * w + v in the memory of x, which must be the caller's own.
func timesPlus(x nat, w, v uint64) nat {
	for i := range x {
		high, low := bits.Mul64(x[i], w)
		low, carry := bits.Add64(low, v, 0)
		x[i], v = low, high+carry
	}
	if v != 0 {
		x = append(x, v)
	}
	return x
}

// text is the number in decimal digits.
func (x nat) text() string {
	if len(x) == 0 {
		return "0"
	}
	var out strings.Builder
	x.write(&out, powersOfTen(len(x)))
	return strings.TrimLeft(out.String(), "0")
}

// powersOfTen are 10^19 and its squares, each that of the one ahead; the last one's square is above all numbers of so many words.
func powersOfTen(words int) []nat {
	out := []nat{natOf(ten)}
	for last := out[0]; 2*len(last)-1 <= words; {
		last = last.times(last)
		out = append(out, last)
	}
	return out
}

// write tells a number below the last power's square, with zeros ahead, by halves as long as it has many words: so that long divisions are few.
func (x nat) write(out *strings.Builder, powers []nat) {
	const short = 4
	if len(powers) < short {
		x.writeWords(out, 1<<len(powers))
		return
	}
	last := len(powers) - 1
	high, low := x.over(powers[last])
	high.write(out, powers[:last])
	low.write(out, powers[:last])
}

// writeWords tells a number of at most so many times 19 digits, with zeros ahead.
func (x nat) writeWords(out *strings.Builder, chunks int) {
	x = slices.Clone(x)
	digits := make([]byte, chunks*chunk)
	for end := len(digits); end > 0; end -= chunk {
		left := divideBy(x, ten)
		x = trimmed(x)
		for i := range chunk {
			digits[end-1-i] = '0' + byte(left%10)
			left /= 10
		}
	}
	out.Write(digits)
}
