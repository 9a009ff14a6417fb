package anatomy_test

import (
	"math"
	"math/big"
	"math/rand"
)

const (
	theNaN   = 0x7ff8000000000001
	theNaN32 = 0x7fc00000
)

var (
	minusZero   = math.Copysign(0, -1)
	minusZero32 = float32(math.Copysign(0, -1))
	inf         = math.Inf(1)
	inf32       = float32(math.Inf(1))
	least       = math.Float64frombits(1)
	least32     = math.Float32frombits(1)
)

func bits(x float64) uint64   { return math.Float64bits(x) }
func bits32(x float32) uint32 { return math.Float32bits(x) }

// nans are NaNs of many bits and of either sign, some of them signalling.
func nans() []float64 {
	var out []float64
	for _, f := range []uint64{1, 2, 5, 1<<51 - 1, 1 << 51, 1<<51 + 1, 1<<51 + 2, 1<<52 - 1} {
		out = append(out, math.Float64frombits(0x7ff<<52|f), math.Float64frombits(0xfff<<52|f))
	}
	return out
}

func nans32() []float32 {
	var out []float32
	for _, f := range []uint32{1, 2, 5, 1<<22 - 1, 1 << 22, 1<<22 + 1, 1<<23 - 1} {
		out = append(out, math.Float32frombits(0xff<<23|f), math.Float32frombits(0x1ff<<23|f))
	}
	return out
}

// samples are numbers that are no NaNs: the edges of each exponent field, with either sign, and many bits by chance.
func samples() []float64 {
	var out []float64
	for e := uint64(0); e < 2047; e++ {
		for _, f := range []uint64{0, 1, 2, 1 << 51, 1<<52 - 2, 1<<52 - 1} {
			x := math.Float64frombits(e<<52 | f)
			out = append(out, x, -x)
		}
	}
	r := rand.New(rand.NewSource(1))
	for range 20000 {
		if x := math.Float64frombits(r.Uint64()); x == x {
			out = append(out, x)
		}
		x := math.Float64frombits(r.Uint64() >> (12 + r.Intn(52)))
		out = append(out, x, -x, float64(r.Intn(1000)-500)/8)
	}
	return append(out, inf, -inf)
}

func samples32() []float32 {
	var out []float32
	for e := uint32(0); e < 255; e++ {
		for _, f := range []uint32{0, 1, 2, 1 << 22, 1<<23 - 2, 1<<23 - 1} {
			x := math.Float32frombits(e<<23 | f)
			out = append(out, x, -x)
		}
	}
	r := rand.New(rand.NewSource(2))
	for range 20000 {
		if x := math.Float32frombits(r.Uint32()); x == x {
			out = append(out, x)
		}
		x := math.Float32frombits(r.Uint32() >> (9 + r.Intn(23)))
		out = append(out, x, -x, float32(r.Intn(1000)-500)/8)
	}
	return append(out, inf32, -inf32)
}

// exactly is mant * 2^exp, as the library of great numbers tells it.
func exactly(neg bool, mant uint64, exp int) *big.Float {
	x := new(big.Float).SetPrec(200).SetUint64(mant)
	x.SetMantExp(x, exp)
	if neg {
		x.Neg(x)
	}
	return x
}
