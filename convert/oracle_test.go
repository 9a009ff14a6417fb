package convert_test

import (
	"math"
	"math/big"

	"binnacle/api"
)

// What is tested is held against the chapter's words, reckoned in fractions without end.

type format struct {
	digits, low, high int
}

var (
	single = format{24, -126, 127}
	number = format{53, -1022, 1023}
)

func power(k int) *big.Rat {
	p := new(big.Int).Lsh(big.NewInt(1), uint(max(k, -k)))
	if k < 0 {
		return new(big.Rat).SetFrac(big.NewInt(1), p)
	}
	return new(big.Rat).SetInt(p)
}

// floorLog is the k of 2^k <= v < 2^(k + 1).
func floorLog(v *big.Rat) int {
	k := v.Num().BitLen() - v.Denom().BitLen()
	if v.Cmp(power(k)) < 0 {
		k--
	}
	return k
}

func exactly(x float64) *big.Rat {
	return new(big.Rat).SetFloat64(x)
}

// around is the two of the multiples of step next to v, and whether the lower one is an even multiple; on is whether v is one itself.
func around(v, step *big.Rat) (lo, hi *big.Rat, even, on bool) {
	q := new(big.Rat).Quo(v, step)
	n := new(big.Int).Div(q.Num(), q.Denom())
	lo = new(big.Rat).Mul(new(big.Rat).SetInt(n), step)
	return lo, new(big.Rat).Add(lo, step), n.Bit(0) == 0, lo.Cmp(v) == 0
}

// choose takes one of the two around v.
func choose(v, lo, hi *big.Rat, even bool, mode int) *big.Rat {
	outer, inner := hi, lo
	if v.Sign() < 0 {
		outer, inner = lo, hi
	}
	nearer := new(big.Rat).Sub(v, lo).Cmp(new(big.Rat).Sub(hi, v))
	switch mode {
	case api.ModeNear:
		if nearer < 0 || nearer == 0 && even {
			return lo
		}
		return hi
	case api.ModeAway:
		if nearer == 0 {
			return outer
		}
		if nearer < 0 {
			return lo
		}
		return hi
	case api.ModeZero:
		return inner
	case api.ModeUp:
		return hi
	}
	return lo
}

// signedFloat is a number of the sign of v.
func signedFloat(x *big.Rat, v *big.Rat) float64 {
	f, exact := x.Float64()
	if !exact {
		panic("the oracle's answer is no number")
	}
	return math.Copysign(f, float64(v.Sign()))
}

// rounded is v, not 0, rounded to a format, and the flags.
func rounded(v *big.Rat, f format, mode int) (float64, int) {
	amount := new(big.Rat).Abs(v)
	log := floorLog(amount)
	step := power(max(log, f.low) - f.digits + 1)
	lo, hi, even, on := around(v, step)
	x := v
	flags := 0
	if !on {
		x, flags = choose(v, lo, hi, even, mode), api.FlagInexact
		if amount.Cmp(power(f.low)) < 0 {
			flags += api.FlagUnder
		}
	}
	if new(big.Rat).Abs(x).Cmp(power(f.high+1)) < 0 {
		return signedFloat(x, v), flags
	}
	greatest := new(big.Rat).Sub(power(f.high+1), power(f.high-f.digits+1))
	if mode == api.ModeZero || mode == api.ModeUp && v.Sign() < 0 || mode == api.ModeDown && v.Sign() > 0 {
		return signedFloat(greatest, v), api.FlagInexact + api.FlagOver
	}
	return math.Inf(v.Sign()), api.FlagInexact + api.FlagOver
}

// wholeRounded is v, not 0, rounded to a whole number.
func wholeRounded(v *big.Rat, mode int) (float64, int) {
	lo, hi, even, on := around(v, power(0))
	if on {
		return signedFloat(v, v), 0
	}
	return signedFloat(choose(v, lo, hi, even, mode), v), api.FlagInexact
}

// rootStandIn is the root of v, or, where that is no fraction, one that lies on the same side of everything that a single's rounding looks at.
func rootStandIn(v *big.Rat) *big.Rat {
	const fine = 400
	n := new(big.Rat).Mul(v, power(2*fine))
	r := new(big.Int).Sqrt(n.Num())
	out := new(big.Rat).SetInt(r)
	if new(big.Int).Mul(r, r).Cmp(n.Num()) != 0 {
		out.Add(out, big.NewRat(1, 2))
	}
	return out.Mul(out, power(-fine))
}
