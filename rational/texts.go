package rational

import (
	"strings"

	"binnacle/api"
	"binnacle/big"
)

// read is the fraction of a text, which must be one.
func read(f api.Frac) big.Rat {
	out, is := fractionOf(f)
	require(is, api.ErrFrac)
	return out
}

// fractionOf is the fraction of a text; false, if the text isn't one in its one way to be written.
func fractionOf(f api.Frac) (big.Rat, bool) {
	upper, lower, parted := strings.Cut(string(f), "/")
	above, is := wholeRead(upper)
	if !is {
		return big.Rat{}, false
	}
	if !parted {
		return big.Ratio(above, one()), true
	}
	below, is := wholeRead(lower)
	// 0 and 1 have less than two bits.
	if !is || above.Sign() == 0 || below.Sign() < 0 || below.Bits() < 2 || !big.Coprime(above, below) {
		return big.Rat{}, false
	}
	return big.Ratio(above, below), true
}

// wholeRead is the number of a whole number's text, of at most MaxBits bits.
func wholeRead(text string) (big.Int, bool) {
	// A digit behind the first one is worth more than 3 bits: so no text that is longer need be read.
	const longest = api.MaxBits/3 + 2
	if len(text) > longest {
		return big.Int{}, false
	}
	n, is := big.Read(text)
	return n, is && n.Bits() <= api.MaxBits
}

// written is a fraction's one text; it must not be too great.
func written(f big.Rat) api.Frac {
	f, fits := f.Lowest(api.MaxBits)
	require(fits, api.ErrLong)
	if f.Below().Bits() == 1 {
		return api.Frac(f.Above().Text())
	}
	return api.Frac(f.Above().Text() + "/" + f.Below().Text())
}
