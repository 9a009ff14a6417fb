// Package exact holds what the exact layers share: numbers and texts as fractions without end, and matrices of such fractions.
package exact

import (
	"math"
	"strings"

	"binnacle/anatomy"
	"binnacle/api"
	"binnacle/big"
)

// Of is a number, exactly; false, if it isn't finite.
func Of(x float64) (big.Rat, bool) {
	p, why := anatomy.Parts(x)
	if why != api.OK {
		return big.Rat{}, false
	}
	above := big.Whole(p.Neg, p.Mant).Times(big.Power(max(p.Exp, 0)))
	return big.Ratio(above, big.Power(max(-p.Exp, 0))), true
}

// Read is the fraction of a text; false, if the text isn't one in its one way to be written.
func Read(f api.Frac) (big.Rat, bool) {
	upper, lower, parted := strings.Cut(string(f), "/")
	above, is := wholeRead(upper)
	if !is {
		return big.Rat{}, false
	}
	if !parted {
		return big.Ratio(above, one()), true
	}
	below, is := wholeRead(lower)
	// 0 and 1 have less than two bits.
	if !is || above.Sign() == 0 || below.Sign() < 0 || below.Bits() < 2 || !big.Coprime(above, below) {
		return big.Rat{}, false
	}
	return big.Ratio(above, below), true
}

// wholeRead is the number of a whole number's text, of at most MaxBits bits.
func wholeRead(text string) (big.Int, bool) {
	// A digit behind the first one is worth more than 3 bits: so no text that is longer need be read.
	const longest = api.MaxBits/3 + 2
	if len(text) > longest {
		return big.Int{}, false
	}
	n, is := big.Read(text)
	return n, is && n.Bits() <= api.MaxBits
}

// Lowest is a fraction in lowest terms.
func Lowest(f big.Rat) big.Rat {
	out, _ := f.Lowest(math.MaxInt)
	return out
}

// Fitted is a fraction in lowest terms; false, if it is too great for a text.
func Fitted(f big.Rat) (big.Rat, bool) { return f.Lowest(api.MaxBits) }

// Text is the one text of a fraction that is in lowest terms.
func Text(f big.Rat) api.Frac {
	if f.Below().Bits() == 1 {
		return api.Frac(f.Above().Text())
	}
	return api.Frac(f.Above().Text() + "/" + f.Below().Text())
}
