package dyad_test

import (
	"encoding/binary"
	"math"
	"math/big"
	"slices"

	"binnacle/api"
)

// What is tested is held against the chapter's words, reckoned with whole numbers of the library.

// exact is m * 2^e.
type exact struct {
	m *big.Int
	e int
}

func exactOf(d api.Dyad) exact {
	var bytes []byte
	for _, word := range slices.Backward(d.Mag) {
		bytes = binary.BigEndian.AppendUint32(bytes, word)
	}
	m := new(big.Int).SetBytes(bytes)
	if d.Neg {
		m.Neg(m)
	}
	return exact{m, d.Exp}
}

func exactFloat(x float64) exact {
	fraction, e := math.Frexp(x)
	return exact{big.NewInt(int64(math.Ldexp(fraction, 53))), e - 53}
}

func power(e int) exact { return exact{big.NewInt(1), e} }

func common(x, y exact) (*big.Int, *big.Int, int) {
	e := min(x.e, y.e)
	return new(big.Int).Lsh(x.m, uint(x.e-e)), new(big.Int).Lsh(y.m, uint(y.e-e)), e
}

func (x exact) add(y exact) exact {
	a, b, e := common(x, y)
	return exact{a.Add(a, b), e}
}

func (x exact) neg() exact { return exact{new(big.Int).Neg(x.m), x.e} }

func (x exact) abs() exact { return exact{new(big.Int).Abs(x.m), x.e} }

func (x exact) sub(y exact) exact { return x.add(y.neg()) }

func (x exact) mul(y exact) exact { return exact{new(big.Int).Mul(x.m, y.m), x.e + y.e} }

func (x exact) cmp(y exact) int {
	a, b, _ := common(x, y)
	return a.Cmp(b)
}

func (x exact) sign() int { return x.m.Sign() }

// dyad is x in the one way to be written, if that is within the limits.
func (x exact) dyad() (api.Dyad, api.Errno) {
	if x.sign() == 0 {
		return api.Dyad{}, api.OK
	}
	zeros := x.m.TrailingZeroBits()
	m := new(big.Int).Rsh(new(big.Int).Abs(x.m), zeros)
	if e := x.e + int(zeros); m.BitLen() > 65536 || e < -100000 || e > 100000 {
		return api.Dyad{}, api.ErrLong
	}
	return api.Dyad{Neg: x.sign() < 0, Mag: wordsOf(m), Exp: x.e + int(zeros)}, api.OK
}

func wordsOf(m *big.Int) []uint32 {
	bytes := m.Bytes()
	out := make([]uint32, (len(bytes)+3)/4)
	for i, b := range bytes {
		place := len(bytes) - 1 - i
		out[place/4] |= uint32(b) << (place % 4 * 8)
	}
	return out
}

// floats are the numbers from 0 up to infinity, told by their bits.
type floats struct {
	infinite uint64
	value    func(bits uint64) float64
	end      int // 2^end stands for the infinite one
}

var (
	numbers = floats{0x7ff << 52, math.Float64frombits, 1024}
	singles = floats{0xff << 23, func(b uint64) float64 { return float64(math.Float32frombits(uint32(b))) }, 128}
)

func (f floats) exact(bits uint64) exact {
	if bits == f.infinite {
		return power(f.end)
	}
	return exactFloat(f.value(bits))
}

// below finds the greatest finite number that isn't above an amount.
func (f floats) below(amount exact) uint64 {
	lo, hi := uint64(0), f.infinite
	for hi-lo > 1 {
		if mid := lo + (hi-lo)/2; f.exact(mid).cmp(amount) <= 0 {
			lo = mid
		} else {
			hi = mid
		}
	}
	return lo
}

// rounded is the number for v, in each mode.
func (f floats) rounded(v exact) [5]float64 {
	amount, neg := v.abs(), v.sign() < 0
	inner := f.below(amount)
	outer := inner
	if f.exact(inner).cmp(amount) != 0 {
		outer = inner + 1
	}
	nearer := amount.sub(f.exact(inner)).cmp(f.exact(outer).sub(amount).abs())
	signed := func(grow bool) float64 {
		x := f.value(inner)
		if grow {
			x = f.value(outer)
		}
		if neg {
			return -x
		}
		return x
	}
	return [5]float64{
		api.ModeNear: signed(nearer > 0 || nearer == 0 && inner%2 == 1),
		api.ModeAway: signed(nearer >= 0),
		api.ModeZero: signed(false),
		api.ModeUp:   signed(!neg),
		api.ModeDown: signed(neg),
	}
}

// wholes is the whole number for v, in each mode.
func wholes(v exact) [5]exact {
	if v.e >= 0 {
		return [5]exact{v, v, v, v, v}
	}
	unit := new(big.Int).Lsh(big.NewInt(1), uint(-v.e))
	n, left := new(big.Int).DivMod(v.m, unit, new(big.Int))
	lo, hi := exact{n, 0}, exact{n, 0}
	if left.Sign() != 0 {
		hi = lo.add(power(0))
	}
	inner, outer := lo, hi
	if v.sign() < 0 {
		inner, outer = hi, lo
	}
	near, away := lo, lo
	switch v.sub(lo).cmp(hi.sub(v)) {
	case 1:
		near, away = hi, hi
	case 0:
		away = outer
		if n.Bit(0) == 1 {
			near = hi
		}
	}
	return [5]exact{api.ModeNear: near, api.ModeAway: away, api.ModeZero: inner, api.ModeUp: hi, api.ModeDown: lo}
}
