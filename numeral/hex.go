package numeral

import (
	"math/bits"
	"strconv"
	"strings"

	"binnacle/anatomy"
	"binnacle/api"
)

func hexForm(p api.Parts) string {
	var b strings.Builder
	if p.Neg {
		b.WriteByte('-')
	}
	if p.Mant == 0 {
		b.WriteString("0x0p0")
		return b.String()
	}
	// The mantissa's first bit, the 1 ahead of the point, is shifted out of the word.
	size := bits.Len64(p.Mant)
	behind := p.Mant << (65 - size)
	b.WriteString("0x1")
	if behind != 0 {
		b.WriteByte('.')
	}
	for ; behind != 0; behind <<= 4 {
		b.WriteByte("0123456789abcdef"[behind>>60])
	}
	b.WriteByte('p')
	b.WriteString(strconv.Itoa(p.Exp + size - 1))
	return b.String()
}

// hexGuess is the number of which a text is the hex form; of another text it may be any number.
func hexGuess(s string) float64 {
	body, neg := strings.CutPrefix(s, "-")
	mantissa, power, _ := strings.Cut(strings.TrimPrefix(body, "0x"), "p")
	ahead, behind, _ := strings.Cut(mantissa, ".")
	exp, _ := strconv.Atoi(power)
	x, _ := anatomy.Of(api.Parts{Neg: neg, Mant: hexCount(ahead + behind), Exp: exp - 4*len(behind)})
	return x
}

// hexCount is what hexadecimal digits count, up to the first rune that is none.
func hexCount(s string) uint64 {
	var n uint64
digits:
	for _, r := range s {
		switch {
		case '0' <= r && r <= '9':
			n = n<<4 | uint64(r-'0')
		case 'a' <= r && r <= 'f':
			n = n<<4 | uint64(r-'a'+10)
		default:
			break digits
		}
	}
	return n
}
