package numeral_test

import (
	"math"
	"math/rand"
	"strings"
	"testing"

	"binnacle/api"
)

var (
	inf    = math.Inf(1)
	minus  = math.Copysign(0, -1)
	theNaN = math.Float64frombits(0x7ff8000000000001)
)

const (
	most    = math.MaxFloat64
	least   = 0x1p-1074
	most32  = math.MaxFloat32
	least32 = 0x1p-149
)

func next(x float64) float64 { return math.Nextafter(x, inf) }

func prev(x float64) float64 { return math.Nextafter(x, -inf) }

// same tells of bits, those of NaNs and noughts too.
func same(a, b float64) bool { return math.Float64bits(a) == math.Float64bits(b) }

func same32(a, b float32) bool { return math.Float32bits(a) == math.Float32bits(b) }

// few stops a test that has found enough.
func few(t *testing.T, wrong *int) {
	t.Helper()
	if *wrong++; *wrong > 10 {
		t.FailNow()
	}
}

// seen is a text as a message shows it.
func seen(s string) string {
	if len(s) > 60 {
		return s[:30] + ".." + s[len(s)-28:]
	}
	return s
}

// number is what a call says that reads a number.
type number struct {
	x   float64
	err api.Errno
}

func read(x float64, err api.Errno) number { return number{x, err} }

func read32(x float32, err api.Errno) number {
	// A NaN's other bits must not go away where it becomes a number.
	if x != x && math.Float32bits(x) != 0x7fc00000 {
		return number{math.Float64frombits(0x7ff8000000000002), err}
	}
	if x != x {
		return number{theNaN, err}
	}
	return number{float64(x), err}
}

func (n number) is(x float64, err api.Errno) bool { return same(n.x, x) && n.err == err }

func (n number) refused(err api.Errno) bool { return n.is(0, err) }

// nans are NaNs of all bits that matter.
func nans() []float64 {
	var out []float64
	for _, f := range []uint64{1, 1 << 51, 1<<51 + 1, 1<<52 - 1, 1 << 20} {
		out = append(out, math.Float64frombits(0x7ff<<52|f), math.Float64frombits(0xfff<<52|f))
	}
	return out
}

func nans32() []float32 {
	var out []float32
	for _, f := range []uint32{1, 1 << 22, 1<<22 + 1, 1<<23 - 1, 1 << 10} {
		out = append(out, math.Float32frombits(0xff<<23|f), math.Float32frombits(0x1ff<<23|f))
	}
	return out
}

// edges are finite numbers at and beside the places that matter.
func edges() []float64 {
	amounts := []float64{0, least, 0x2p-1074, 0x3p-1074, 0x5p-1074, 0x1p-1022 - least, 0x1p-1022, 0x1p-1021, 1e-300, 0x1p-149, 0x1p-126, 1e-5, 0.1, 0.5, 1, 1.5, 2, 3, 5, 7, 9, 10, 15, 16, 17, 99, 100, 123456, 1e15, 1e22, 1e23, 1 << 53, 1<<53 + 2, 1125899906842624.25, 1125899906842624.75, 0x1p63, 0x1p70, 0x1p128, 1e300, 0x1p1023, most, 9.5, 0.3, 2.5e-8, 9007199254740991, 4.35, 1.7976931348623155e308}
	var out []float64
	for _, x := range amounts {
		for _, y := range []float64{prev(x), x, next(x)} {
			if !math.IsInf(y, 0) {
				out = append(out, y, -y)
			}
		}
	}
	return append(out, minus)
}

// powers are all powers of 2, each with its neighbours.
func powers() []float64 {
	var out []float64
	for e := -1074; e < 1024; e++ {
		x := math.Ldexp(1, e)
		out = append(out, prev(x), x, next(x))
	}
	return out
}

func powers32() []float32 {
	var out []float32
	for e := -149; e < 128; e++ {
		x := float32(math.Ldexp(1, e))
		out = append(out, math.Nextafter32(x, 0), x, math.Nextafter32(x, most32))
	}
	return out
}

// chance is some finite number, of any kind that matters.
func chance(r *rand.Rand) float64 {
	sign := float64(1 - 2*r.Intn(2))
	switch r.Intn(6) {
	case 0:
		return sign * float64(r.Intn(1000))
	case 1:
		return sign * math.Float64frombits(r.Uint64()>>(12+r.Intn(52)))
	case 2:
		return sign * float64(r.Intn(100000)) / math.Pow10(r.Intn(9))
	case 3:
		// Few bits, so that few hexadecimal digits.
		return sign * math.Ldexp(float64(r.Intn(1<<r.Intn(20))), r.Intn(80)-40)
	}
	for {
		if x := math.Float64frombits(r.Uint64()); !math.IsNaN(x) && !math.IsInf(x, 0) {
			return x
		}
	}
}

func chance32(r *rand.Rand) float32 {
	for {
		x := math.Float32frombits(r.Uint32())
		if r.Intn(3) == 0 {
			x = float32(chance(r))
		}
		if y := float64(x); !math.IsNaN(y) && !math.IsInf(y, 0) {
			return x
		}
	}
}

// numbers are all those, and so many by chance.
func numbers(n int, seed int64) []float64 {
	out := edges()
	r := rand.New(rand.NewSource(seed))
	for range n {
		out = append(out, chance(r))
	}
	return out
}

// singles are likewise.
func singles(n int, seed int64) []float32 {
	var out []float32
	for _, x := range edges() {
		if y := float32(x); math.Abs(float64(y)) <= most32 {
			out = append(out, y)
		}
	}
	out = append(out, least32, 0x2p-149, 0x3p-149, 0x1p-126-least32, 0x1p-126, most32, -most32, 2097152.25, 2097152.75, 16777216, 16777218)
	r := rand.New(rand.NewSource(seed))
	for range n {
		out = append(out, chance32(r))
	}
	return out
}

// spoilt is a text with something done to it that a reader might overlook.
func spoilt(r *rand.Rand, s string) string {
	const marks = "0123456789abcdefpxXPEn.-+ _e0\x80\x00\t\n"
	other := string(marks[r.Intn(len(marks))])
	if r.Intn(12) == 0 {
		other = []string{"٣", "０", "−", "\u00a0", "\xff", "é"}[r.Intn(6)]
	}
	at := r.Intn(len(s) + 1)
	end := min(len(s), at+r.Intn(2))
	switch r.Intn(4) {
	case 0:
		return s[:at] + s[end:]
	case 1:
		return s[:at] + other + s[at:]
	case 2:
		return s[:at] + strings.Repeat("0", 1+r.Intn(3)) + s[at:]
	}
	return s[:at] + other + s[end:]
}
