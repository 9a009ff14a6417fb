package convert_test

import (
	"math"
	"math/rand"
	"testing"

	"binnacle/api"
)

const (
	theNaN   = 0x7ff8000000000001
	theNaN32 = 0x7fc00000
)

var (
	modes       = []int{api.ModeNear, api.ModeAway, api.ModeZero, api.ModeUp, api.ModeDown}
	noModes     = []int{-1, 5, 6, 8, 255, 256, 1 << 32, math.MaxInt, math.MinInt}
	minusZero   = math.Copysign(0, -1)
	minusZero32 = float32(minusZero)
	inf         = math.Inf(1)
	inf32       = float32(inf)
)

func bits(x float64) uint64   { return math.Float64bits(x) }
func bits32(x float32) uint32 { return math.Float32bits(x) }

func opposite(mode int) int {
	switch mode {
	case api.ModeUp:
		return api.ModeDown
	case api.ModeDown:
		return api.ModeUp
	}
	return mode
}

// nans are NaNs of many bits and of either sign, some of them signalling.
func nans() []float64 {
	var out []float64
	for _, f := range []uint64{1, 2, 5, 1 << 29, 1<<51 - 1, 1 << 51, 1<<51 + 1, 1<<52 - 1} {
		out = append(out, math.Float64frombits(0x7ff<<52|f), math.Float64frombits(0xfff<<52|f))
	}
	return out
}

func nans32() []float32 {
	var out []float32
	for _, f := range []uint32{1, 2, 1<<22 - 1, 1 << 22, 1<<22 + 1, 1<<23 - 1} {
		out = append(out, math.Float32frombits(0xff<<23|f), math.Float32frombits(0x1ff<<23|f))
	}
	return out
}

// edges32 are finite singles above 0 where something changes.
func edges32() []float32 {
	words := []uint32{
		1, 2, 3, 4, 5, 1 << 22, 1<<23 - 2, 1<<23 - 1, // subnormals
		1 << 23, 1<<23 + 1, 1<<23 + 2, 2 << 23, 3<<23 - 1, 24 << 23, 25<<23 + 3, // the least normal ones, and above
		63 << 23, 64 << 23, 64<<23 + 1, 65<<23 - 1, 102 << 23, 103 << 23, 103<<23 + 1,
		126 << 23, 127<<23 - 1, 127 << 23, 127<<23 + 1, 127<<23 + 2, 127<<23 + 1<<22, 128<<23 - 1, 128 << 23, 128<<23 + 1, 128<<23 + 1<<22,
		150 << 23, 151<<23 - 1, 151 << 23, 151<<23 + 1, 152 << 23,
		190 << 23, 191<<23 - 1, 191 << 23, 191<<23 + 1,
		230 << 23, 230<<23 + 1, 253 << 23, 254 << 23, 254<<23 + 1, 255<<23 - 2, 255<<23 - 1,
	}
	var out []float32
	for _, w := range words {
		out = append(out, math.Float32frombits(w))
	}
	return out
}

// signs is a list of finite numbers above 0 with its opposites, and noughts.
func signs(l []float32) []float32 {
	out := []float32{0, minusZero32}
	for _, f := range l {
		out = append(out, f, -f)
	}
	return out
}

// chance32 is a finite single that isn't 0, its exponent field from low to high.
func chance32(r *rand.Rand, low, high int) float32 {
	w := uint32(low+r.Intn(high-low+1))<<23 | r.Uint32()>>(9+uint(r.Intn(23)))
	switch r.Intn(4) {
	case 0:
		w |= 1 << 22
	case 1:
		w = w&^(1<<23-1) | r.Uint32()&(1<<23-1)
	case 2:
		w = w&^(1<<23-1) | (r.Uint32()&31)<<18
	}
	if w == 0 {
		w = 1
	}
	return math.Float32frombits(w | r.Uint32()&(1<<31))
}

// finite are numbers of all classes but infinities and NaNs: what lies on and around singles, ties between them, halves, the ends of widths.
func finite() []float64 {
	var out []float64
	add := func(x float64) {
		for _, y := range []float64{x, math.Nextafter(x, inf), math.Nextafter(x, -inf)} {
			if !math.IsInf(y, 0) {
				out = append(out, y, -y)
			}
		}
	}
	for k := -1074; k < 1024; k++ {
		if k < -1070 || -1030 < k && k < -1015 || -155 < k && k < -120 || -30 < k && k < 135 || k > 1015 || k%29 == 0 {
			add(math.Ldexp(1, k))
		}
	}
	for _, f := range edges32() {
		x := float64(f)
		add(x)
		up := float64(math.Nextafter32(f, inf32))
		if f == math.MaxFloat32 {
			up = math.Ldexp(1, 128)
		}
		add((x + up) / 2)
		add(x + (up-x)/4)
		add(x + (up-x)*3/4)
	}
	for n := range 70 {
		add(float64(n) / 4)
		add(math.Ldexp(1, n) - 0.5)
		add(math.Ldexp(1, n) + 0.5)
		add(math.Ldexp(1, n) - 1)
		add(math.Ldexp(1, n) + 1.5)
	}
	add(math.MaxFloat64)
	r := rand.New(rand.NewSource(3))
	for range 700 {
		for _, x := range []float64{math.Float64frombits(r.Uint64()), float64(chance32(r, 0, 254)), math.Ldexp(float64(r.Int63()), -60+r.Intn(8)), math.Ldexp(1+float64(r.Intn(1<<26)), -160-r.Intn(30))} {
			if !math.IsNaN(x) && !math.IsInf(x, 0) {
				out = append(out, x, -x)
			}
		}
	}
	return out
}

// said is a single beside its flags and its error.
type said struct {
	f     float32
	flags int
	err   api.Errno
}

func told(f float32, flags int, err api.Errno) said { return said{f, flags, err} }

func (s said) is(f float32, flags int) bool {
	return bits32(s.f) == bits32(f) && s.flags == flags && s.err == api.OK
}

func (s said) isNaN(flags int) bool {
	return bits32(s.f) == theNaN32 && s.flags == flags && s.err == api.OK
}

// saidWide is the same of a number.
type saidWide struct {
	x     float64
	flags int
	err   api.Errno
}

func toldWide(x float64, flags int, err api.Errno) saidWide { return saidWide{x, flags, err} }

func (s saidWide) is(x float64, flags int) bool {
	return bits(s.x) == bits(x) && s.flags == flags && s.err == api.OK
}

// few stops a test that has found enough.
func few(t *testing.T, wrong *int) {
	t.Helper()
	if *wrong++; *wrong > 10 {
		t.FailNow()
	}
}
