package dyad_test

import (
	"math"
	"math/rand"
	"slices"
	"testing"

	"binnacle/api"
	"binnacle/dyad"
)

var (
	modes   = []int{api.ModeNear, api.ModeAway, api.ModeZero, api.ModeUp, api.ModeDown}
	noModes = []int{-1, 5, 6, 8, 255, 256, 1 << 30, math.MaxInt, math.MinInt}
	inf     = math.Inf(1)
)

// notFinite are infinities and NaNs.
func notFinite() []float64 {
	out := []float64{inf, -inf}
	for _, f := range []uint64{1, 1 << 51, 1<<51 + 1, 1<<52 - 1} {
		out = append(out, math.Float64frombits(0x7ff<<52|f), math.Float64frombits(0xfff<<52|f))
	}
	return out
}

// finite are numbers of all classes but infinities and NaNs.
func finite() []float64 {
	out := []float64{0, math.Copysign(0, -1)}
	for _, x := range []float64{0x1p-1074, 0x3p-1074, 0x1p-1023, 0x1p-1022 - 0x1p-1074, 0x1p-1022, 0x1p-1022 + 0x1p-1074, 0x1p-149, 0x1p-126, 0.1, 0.5, 1 - 0x1p-53, 1, 1 + 0x1p-52, 1.5, 2.5, 3, 6, 10, 1<<31 - 1, 1 << 31, 1<<32 - 1, 1 << 32, 1<<32 + 1, 1<<53 - 1, 1 << 53, 1<<53 + 2, 1 << 63, 0x1p127, math.MaxFloat32, 0x1p1023, math.MaxFloat64, 0x1.ffffffffffffep1023} {
		out = append(out, x, -x)
	}
	r := rand.New(rand.NewSource(1))
	for len(out) < 400 {
		x := math.Float64frombits(r.Uint64())
		if r.Intn(2) == 0 {
			x = math.Ldexp(float64(r.Int63n(1<<uint(1+r.Intn(54))))-float64(r.Intn(5)), r.Intn(90)-60)
		}
		if !math.IsNaN(x) && !math.IsInf(x, 0) {
			out = append(out, x)
		}
	}
	return out
}

// ones are words all of whose bits are 1.
func ones(n int) []uint32 {
	return slices.Repeat([]uint32{math.MaxUint32}, n)
}

// ends is a magnitude with a 1 at either end, of so many bits (two or more), and zeros between.
func ends(bits int) []uint32 {
	out := make([]uint32, (bits+31)/32)
	out[0] |= 1
	out[(bits-1)/32] |= 1 << ((bits - 1) % 32)
	return out
}

// chance is a dyad of so many words at most.
func chance(r *rand.Rand, words int, low, high int) api.Dyad {
	mag := make([]uint32, 1+r.Intn(words))
	for i := range mag {
		switch r.Intn(4) {
		case 0:
			mag[i] = math.MaxUint32
		case 1:
			mag[i] = 0
		default:
			mag[i] = r.Uint32() >> r.Intn(32)
		}
	}
	mag[0] |= 1
	if last := len(mag) - 1; mag[last] == 0 {
		mag[last] = 1 << r.Intn(32)
		mag[0] |= 1
	}
	return api.Dyad{Neg: r.Intn(2) == 0, Mag: mag, Exp: low + r.Intn(high-low+1)}
}

// dyads are ones that may be: small ones, numbers, long ones, those at the limits.
func dyads() []api.Dyad {
	out := []api.Dyad{{}}
	for _, mag := range [][]uint32{{1}, {3}, {5}, {math.MaxUint32}, {1, 1}, {math.MaxUint32, math.MaxUint32}, {1, 0, 0, 1}, {1<<31 + 1, 1 << 31}, ones(3)} {
		for _, exp := range []int{0, 1, -1, 2, -2, 31, 32, 33, -31, -32, -33, -64, 100, -1074, 971} {
			out = append(out, api.Dyad{Mag: mag, Exp: exp}, api.Dyad{Neg: true, Mag: mag, Exp: exp})
		}
	}
	for _, mag := range [][]uint32{{1}, {3}, ones(40), ends(65535), ends(65536), ones(2048)} {
		for _, exp := range []int{0, -65536, -65535, 100000, 99999, -99999, -100000} {
			out = append(out, api.Dyad{Mag: mag, Exp: exp}, api.Dyad{Neg: true, Mag: mag, Exp: exp})
		}
	}
	r := rand.New(rand.NewSource(2))
	for range 100 {
		out = append(out, chance(r, 3, -70, 70), chance(r, 20, -700, 100))
	}
	for range 5 {
		out = append(out, chance(r, 2048, -70000, 70000), chance(r, 2, -100000, 100000))
	}
	return out
}

// none are dyads that may not be.
func none() []api.Dyad {
	return []api.Dyad{
		{Neg: true}, {Exp: 1}, {Exp: -1}, {Neg: true, Mag: []uint32{}, Exp: 5}, // 0 in other ways
		{Mag: []uint32{0}}, {Mag: []uint32{0, 0}}, {Neg: true, Mag: []uint32{0}}, {Mag: []uint32{1, 0}}, {Mag: []uint32{3, 5, 0}}, // zeros at the end
		{Mag: []uint32{2}}, {Mag: []uint32{0, 1}}, {Mag: []uint32{math.MaxUint32 - 1, 7}}, // even
		{Mag: []uint32{1}, Exp: 100001}, {Mag: []uint32{1}, Exp: -100001}, {Mag: []uint32{1}, Exp: math.MaxInt}, {Mag: []uint32{1}, Exp: math.MinInt}, // beyond the limits
		{Mag: ends(65537)}, {Neg: true, Mag: ones(2049)}, {Mag: ends(65537), Exp: -100000}, {Mag: ends(200000)},
	}
}

func same(a, b api.Dyad) bool {
	return a.Neg == b.Neg && a.Exp == b.Exp && slices.Equal(a.Mag, b.Mag)
}

// said is a dyad beside its error.
type said struct {
	d   api.Dyad
	err api.Errno
}

func told(d api.Dyad, err api.Errno) said { return said{d, err} }

func (s said) is(other said) bool { return same(s.d, other.d) && s.err == other.err }

// refused tells that an error stands beside the zero value.
func (s said) refused(err api.Errno) bool { return s.is(said{api.Dyad{}, err}) && s.d.Mag == nil }

// brief keeps long magnitudes out of what a test tells.
func brief(d api.Dyad) api.Dyad {
	if len(d.Mag) > 4 {
		d.Mag = []uint32{d.Mag[0], uint32(len(d.Mag)), d.Mag[len(d.Mag)-1]}
	}
	return d
}

func (s said) brief() said { return said{brief(s.d), s.err} }

func of(t *testing.T, x float64) api.Dyad {
	t.Helper()
	d, err := dyad.Of(x)
	if err != api.OK {
		t.Fatalf("Of(%x): %d", x, err)
	}
	return d
}

// pow is 2^e.
func pow(e int) api.Dyad { return api.Dyad{Mag: []uint32{1}, Exp: e} }

// few stops a test that has found enough.
func few(t *testing.T, wrong *int) {
	t.Helper()
	if *wrong++; *wrong > 10 {
		t.FailNow()
	}
}
