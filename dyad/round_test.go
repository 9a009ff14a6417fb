package dyad_test

import (
	"math"
	"math/rand"
	"testing"

	"binnacle/api"
	"binnacle/dyad"
)

// roundings are exact numbers about which a rounding has something to say: on numbers and singles, on ties between them, a little beside either.
func roundings() []exact {
	var out []exact
	beside := func(x exact) {
		for _, e := range []int{x.e - 1, x.e - 2, x.e - 40, -1075, -1080, -150, -151, -3000} {
			out = append(out, x.add(power(e)), x.sub(power(e)))
		}
		out = append(out, x)
	}
	around := func(f floats, bits uint64) {
		x := f.exact(bits)
		next := f.exact(bits + 1)
		middle := x.add(next)
		middle.e--
		beside(x)
		beside(middle)
	}
	for _, bits := range []uint64{0, 1, 2, 3, 1 << 51, 1<<52 - 2, 1<<52 - 1, 1 << 52, 1<<52 + 1, 2<<52 - 1, 2 << 52, 1023<<52 - 1, 1023 << 52, 1023<<52 + 1, 1024<<52 - 1, 1024 << 52, 2046 << 52, 2047<<52 - 2, 2047<<52 - 1} {
		around(numbers, bits)
	}
	for _, bits := range []uint64{0, 1, 2, 3, 1 << 22, 1<<23 - 2, 1<<23 - 1, 1 << 23, 1<<23 + 1, 2<<23 - 1, 127<<23 - 1, 127 << 23, 127<<23 + 1, 254 << 23, 255<<23 - 2, 255<<23 - 1} {
		around(singles, bits)
	}
	for _, e := range []int{127, 128, 129, 150, 1023, 1024, 1025, 1100, 5000, 100000} {
		beside(power(e))
	}
	r := rand.New(rand.NewSource(7))
	for range 400 {
		around(numbers, uint64(r.Int63n(2046<<52)))
		around(singles, uint64(r.Int63n(254<<23)))
	}
	return out
}

// roundedDyads are these as dyads, of both signs, and other ones that may be.
func roundedDyads() []api.Dyad {
	out := dyads()
	for _, x := range roundings() {
		for _, y := range []exact{x, x.neg()} {
			if d, err := y.dyad(); err == api.OK {
				out = append(out, d)
			}
		}
	}
	return out
}

func TestRound(t *testing.T) {
	wrong := 0
	for _, d := range roundedDyads() {
		x := exactOf(d)
		wants, wants32 := numbers.rounded(x), singles.rounded(x)
		for _, mode := range modes {
			if got, err := dyad.Round(d, mode); math.Float64bits(got) != math.Float64bits(wants[mode]) || err != api.OK {
				t.Errorf("Round(%v, %d): %x, %d, not %x", brief(d), mode, got, err, wants[mode])
				few(t, &wrong)
			}
			if got, err := dyad.Round32(d, mode); math.Float32bits(got) != math.Float32bits(float32(wants32[mode])) || err != api.OK {
				t.Errorf("Round32(%v, %d): %x, %d, not %x", brief(d), mode, got, err, wants32[mode])
				few(t, &wrong)
			}
		}
	}
}

// ofExact is a dyad that must be within the limits.
func ofExact(t *testing.T, x exact) api.Dyad {
	t.Helper()
	d, err := x.dyad()
	if err != api.OK {
		t.Fatal("no dyad for it")
	}
	return d
}

func TestRoundExamples(t *testing.T) {
	greatest, least := math.MaxFloat64, 0x1p-1074
	minusZero := math.Copysign(0, -1)
	for i, c := range []struct {
		a    exact
		want [5]float64 // near, away, zero, up, down
	}{
		{power(0).add(power(-53)), [5]float64{1, 1 + 0x1p-52, 1, 1 + 0x1p-52, 1}},
		{power(0).add(power(-53)).neg(), [5]float64{-1, -1 - 0x1p-52, -1, -1, -1 - 0x1p-52}},
		{exactFloat(3).mul(power(-1075)), [5]float64{2 * least, 2 * least, least, 2 * least, least}},
		{power(-1075), [5]float64{0, least, 0, least, 0}},
		{power(-1075).neg(), [5]float64{minusZero, -least, minusZero, minusZero, -least}},
		{power(-1080).neg(), [5]float64{minusZero, minusZero, minusZero, minusZero, -least}},
		{power(-100000), [5]float64{0, 0, 0, least, 0}},
		{power(1024), [5]float64{inf, inf, greatest, inf, greatest}},
		{power(1024).neg(), [5]float64{-inf, -inf, -greatest, -greatest, -inf}},
		{power(100000).neg(), [5]float64{-inf, -inf, -greatest, -greatest, -inf}},
		{exactFloat(greatest).add(power(970)), [5]float64{inf, inf, greatest, inf, greatest}},
		{exactFloat(greatest).add(power(970)).sub(power(-1074)), [5]float64{greatest, greatest, greatest, inf, greatest}},
		{exactFloat(greatest), [5]float64{greatest, greatest, greatest, greatest, greatest}},
		{exactFloat(0), [5]float64{}},
	} {
		d := ofExact(t, c.a)
		for _, mode := range modes {
			if got, err := dyad.Round(d, mode); math.Float64bits(got) != math.Float64bits(c.want[mode]) || err != api.OK {
				t.Errorf("case %d, mode %d: %x, %d, not %x", i, mode, got, err, c.want[mode])
			}
		}
	}
}

func TestRound32Edges(t *testing.T) {
	greatest, least := float32(math.MaxFloat32), float32(0x1p-149)
	infinite, minusZero := float32(inf), float32(math.Copysign(0, -1))
	for i, c := range []struct {
		a    exact
		want [5]float32
	}{
		// Rounded once: by way of a number it would be a tie.
		{power(0).add(power(-24)).add(power(-80)), [5]float32{1 + 0x1p-23, 1 + 0x1p-23, 1, 1 + 0x1p-23, 1}},
		{power(0).add(power(-24)).sub(power(-80)), [5]float32{1, 1, 1, 1 + 0x1p-23, 1}},
		{power(0).add(power(-24)), [5]float32{1, 1 + 0x1p-23, 1, 1 + 0x1p-23, 1}},
		{power(-150), [5]float32{0, least, 0, least, 0}},
		{power(-2000).neg(), [5]float32{minusZero, minusZero, minusZero, minusZero, -least}},
		{power(128), [5]float32{infinite, infinite, greatest, infinite, greatest}},
		{power(128).neg(), [5]float32{-infinite, -infinite, -greatest, -greatest, -infinite}},
		{power(2000), [5]float32{infinite, infinite, greatest, infinite, greatest}},
		{power(128).sub(power(103)), [5]float32{infinite, infinite, greatest, infinite, greatest}},
		{power(128).sub(power(103)).sub(power(-1000)), [5]float32{greatest, greatest, greatest, infinite, greatest}},
		{exactFloat(0), [5]float32{}},
	} {
		d := ofExact(t, c.a)
		for _, mode := range modes {
			if got, err := dyad.Round32(d, mode); math.Float32bits(got) != math.Float32bits(c.want[mode]) || err != api.OK {
				t.Errorf("case %d, mode %d: %x, %d, not %x", i, mode, got, err, c.want[mode])
			}
		}
	}
}

func TestWhole(t *testing.T) {
	list := roundedDyads()
	for n := range 200 {
		for _, sign := range []float64{1, -1} {
			list = append(list, of(t, sign*float64(n)/8), of(t, sign*(math.Ldexp(1, n)+0.5)), of(t, sign*(math.Ldexp(1, n)-0.5)), of(t, sign*(math.Ldexp(1, n)-0.25)))
		}
	}
	for _, bits := range []int{40, 64, 96, 65535, 65536} {
		for _, exp := range []int{-1, -2, -31, -32, -33, -bits + 2, -bits + 1, -bits, -bits - 1, -bits - 32} {
			full := exactOf(api.Dyad{Mag: ends(bits), Exp: exp})
			list = append(list, ofExact(t, full), ofExact(t, full.neg()), ofExact(t, power(bits+exp).sub(power(exp))), ofExact(t, power(exp).sub(power(bits+exp))))
		}
	}
	wrong := 0
	for _, d := range list {
		wants := wholes(exactOf(d))
		for _, mode := range modes {
			if got, want := told(dyad.Whole(d, mode)), told(wants[mode].dyad()); !got.is(want) || got.err != api.OK {
				t.Errorf("Whole(%v, %d): %v, not %v", brief(d), mode, got.brief(), want.brief())
				few(t, &wrong)
			}
		}
	}
}

func TestWholeExamples(t *testing.T) {
	for _, c := range []struct {
		x    float64
		want [5]float64
	}{
		{2.5, [5]float64{2, 3, 2, 3, 2}}, {-2.5, [5]float64{-2, -3, -2, -2, -3}}, {3.5, [5]float64{4, 4, 3, 4, 3}}, {0.5, [5]float64{0, 1, 0, 1, 0}}, {-0.5, [5]float64{0, -1, 0, 0, -1}},
		{0.25, [5]float64{0, 0, 0, 1, 0}}, {-0x1p-1074, [5]float64{0, 0, 0, 0, -1}}, {7, [5]float64{7, 7, 7, 7, 7}}, {0, [5]float64{}}, {math.MaxFloat64, [5]float64{math.MaxFloat64, math.MaxFloat64, math.MaxFloat64, math.MaxFloat64, math.MaxFloat64}},
	} {
		for _, mode := range modes {
			if got := told(dyad.Whole(of(t, c.x), mode)); !got.is(said{of(t, c.want[mode]), api.OK}) {
				t.Errorf("Whole(%v, %d): %v, not %v", c.x, mode, got, c.want[mode])
			}
		}
	}
	for _, mode := range modes {
		for _, exp := range []int{0, 34464, 100000} {
			d := api.Dyad{Neg: true, Mag: ones(2048), Exp: exp}
			if got := told(dyad.Whole(d, mode)); !got.is(said{d, api.OK}) {
				t.Errorf("Whole of a whole one, %d: %v", mode, got.brief())
			}
		}
	}
}
