package convert_test

import (
	"math"
	"math/big"
	"math/rand"
	"testing"

	"binnacle/api"
	"binnacle/convert"
)

func TestNarrowAsTheWordsSay(t *testing.T) {
	wrong := 0
	for _, x := range finite() {
		for _, mode := range modes {
			want, flags := x, 0
			if x != 0 {
				want, flags = rounded(exactly(x), single, mode)
			}
			if got := told(convert.Narrow(x, mode)); !got.is(float32(want), flags) {
				t.Errorf("Narrow(%x, %d): %+v, not %x, %d", x, mode, got, want, flags)
				few(t, &wrong)
			}
		}
	}
}

func TestNarrowExamples(t *testing.T) {
	tie := 1 + math.Ldexp(1, -24)
	up := math.Float32frombits(127<<23 + 1)
	last := float64(math.MaxFloat32)
	half := last + math.Ldexp(1, 103) // as near to the greatest single as to 2^128
	for _, c := range []struct {
		x     float64
		want  [5]float32 // by modes
		flags [5]int
	}{
		{tie, [5]float32{1, up, 1, up, 1}, [5]int{1, 1, 1, 1, 1}},
		{-tie, [5]float32{-1, -up, -1, -1, -up}, [5]int{1, 1, 1, 1, 1}},
		{math.Ldexp(1, 128), [5]float32{inf32, inf32, math.MaxFloat32, inf32, math.MaxFloat32}, [5]int{5, 5, 5, 5, 5}},
		{-math.Ldexp(1, 128), [5]float32{-inf32, -inf32, -math.MaxFloat32, -math.MaxFloat32, -inf32}, [5]int{5, 5, 5, 5, 5}},
		{half, [5]float32{inf32, inf32, math.MaxFloat32, inf32, math.MaxFloat32}, [5]int{5, 5, 1, 5, 1}},
		{math.Nextafter(half, 0), [5]float32{math.MaxFloat32, math.MaxFloat32, math.MaxFloat32, inf32, math.MaxFloat32}, [5]int{1, 1, 1, 5, 1}},
		{-math.Nextafter(half, 0), [5]float32{-math.MaxFloat32, -math.MaxFloat32, -math.MaxFloat32, -math.MaxFloat32, -inf32}, [5]int{1, 1, 1, 1, 5}},
		{-math.Ldexp(1, -150), [5]float32{minusZero32, -math.SmallestNonzeroFloat32, minusZero32, minusZero32, -math.SmallestNonzeroFloat32}, [5]int{3, 3, 3, 3, 3}},
		{math.Ldexp(1, -149), [5]float32{math.SmallestNonzeroFloat32, math.SmallestNonzeroFloat32, math.SmallestNonzeroFloat32, math.SmallestNonzeroFloat32, math.SmallestNonzeroFloat32}, [5]int{}},
		{math.SmallestNonzeroFloat64, [5]float32{0, 0, 0, math.SmallestNonzeroFloat32, 0}, [5]int{3, 3, 3, 3, 3}},
		// Below 2^-126, though it is rounded up to that: FlagUnder asks what was rounded.
		{math.Nextafter(math.Ldexp(1, -126), 0), [5]float32{0x1p-126, 0x1p-126, 0x1p-126 - 0x1p-149, 0x1p-126, 0x1p-126 - 0x1p-149}, [5]int{3, 3, 3, 3, 3}},
		{math.Nextafter(math.Ldexp(1, -126), 1), [5]float32{0x1p-126, 0x1p-126, 0x1p-126, 0x1p-126 + 0x1p-149, 0x1p-126}, [5]int{1, 1, 1, 1, 1}},
		{0, [5]float32{}, [5]int{}},
		{minusZero, [5]float32{minusZero32, minusZero32, minusZero32, minusZero32, minusZero32}, [5]int{}},
		{inf, [5]float32{inf32, inf32, inf32, inf32, inf32}, [5]int{}},
		{-inf, [5]float32{-inf32, -inf32, -inf32, -inf32, -inf32}, [5]int{}},
	} {
		for _, mode := range modes {
			if got := told(convert.Narrow(c.x, mode)); !got.is(c.want[mode], c.flags[mode]) {
				t.Errorf("Narrow(%x, %d): %+v, not %x, %d", c.x, mode, got, c.want[mode], c.flags[mode])
			}
		}
	}
	for _, x := range nans() {
		for _, mode := range modes {
			if got := told(convert.Narrow(x, mode)); !got.isNaN(0) {
				t.Errorf("Narrow(%x, %d): %+v", bits(x), mode, got)
			}
		}
	}
}

func TestWiden(t *testing.T) {
	for _, f := range append(signs(edges32()), inf32, -inf32) {
		if x := convert.Widen(f); bits(x) != bits(float64(f)) {
			t.Errorf("Widen(%x): %x", f, x)
		}
	}
	if x := convert.Widen(math.Float32frombits(1)); x != math.Ldexp(1, -149) {
		t.Errorf("Widen of the least: %x", x)
	}
	for _, f := range nans32() {
		if x := convert.Widen(f); bits(x) != theNaN {
			t.Errorf("Widen(%x): %x", bits32(f), bits(x))
		}
	}
}

func TestFits(t *testing.T) {
	fit, unfit := 0, 0
	for _, x := range finite() {
		_, flags, _ := convert.Narrow(x, api.ModeNear)
		back, _ := new(big.Float).SetFloat64(x).Float32()
		want := float64(back) == x
		if got := convert.Fits(x); got != want || got != (flags == 0) {
			t.Errorf("Fits(%x): %t", x, got)
		}
		if want {
			fit++
		} else {
			unfit++
		}
	}
	if fit < 1000 || unfit < 1000 {
		t.Error(fit, unfit)
	}
	for _, x := range append(nans(), 0, minusZero, inf, -inf, 0.5, math.MaxFloat32, math.Ldexp(1, -149)) {
		if !convert.Fits(x) {
			t.Errorf("Fits(%x): false", bits(x))
		}
	}
	for _, x := range []float64{0.1, math.Ldexp(1, 128), math.Ldexp(1, -150), math.MaxFloat64, 1 + math.Ldexp(1, -24)} {
		if convert.Fits(x) || convert.Fits(-x) {
			t.Errorf("Fits(%x): true", x)
		}
	}
}

func TestWholeAsTheWordsSay(t *testing.T) {
	wrong := 0
	for _, x := range finite() {
		for _, mode := range modes {
			want, flags := x, 0
			if x != 0 {
				want, flags = wholeRounded(exactly(x), mode)
			}
			if got := toldWide(convert.Whole(x, mode)); !got.is(want, flags) {
				t.Errorf("Whole(%x, %d): %+v, not %x, %d", x, mode, got, want, flags)
				few(t, &wrong)
			}
		}
	}
}

func TestWholeExamples(t *testing.T) {
	for _, c := range []struct {
		x    float64
		want [5]float64
		flag int
	}{
		{-0.5, [5]float64{minusZero, -1, minusZero, minusZero, -1}, 1},
		{2.5, [5]float64{2, 3, 2, 3, 2}, 1},
		{3.5, [5]float64{4, 4, 3, 4, 3}, 1},
		{0.4, [5]float64{0, 0, 0, 1, 0}, 1},
		{math.SmallestNonzeroFloat64, [5]float64{0, 0, 0, 1, 0}, 1},
		{0.5 - math.Ldexp(1, -54), [5]float64{0, 0, 0, 1, 0}, 1},
		{math.Ldexp(1, 52) - 0.5, [5]float64{1 << 52, 1 << 52, 1<<52 - 1, 1 << 52, 1<<52 - 1}, 1},
		{math.Ldexp(1, 52) + 1, [5]float64{1<<52 + 1, 1<<52 + 1, 1<<52 + 1, 1<<52 + 1, 1<<52 + 1}, 0},
		{-math.MaxFloat64, [5]float64{-math.MaxFloat64, -math.MaxFloat64, -math.MaxFloat64, -math.MaxFloat64, -math.MaxFloat64}, 0},
		{minusZero, [5]float64{minusZero, minusZero, minusZero, minusZero, minusZero}, 0},
		{0, [5]float64{}, 0},
		{inf, [5]float64{inf, inf, inf, inf, inf}, 0},
		{-inf, [5]float64{-inf, -inf, -inf, -inf, -inf}, 0},
	} {
		for _, mode := range modes {
			if got := toldWide(convert.Whole(c.x, mode)); !got.is(c.want[mode], c.flag) {
				t.Errorf("Whole(%v, %d): %+v, not %v", c.x, mode, got, c.want[mode])
			}
		}
	}
	for _, x := range nans() {
		for _, mode := range modes {
			if y, flags, err := convert.Whole(x, mode); bits(y) != theNaN || flags != 0 || err != api.OK {
				t.Errorf("Whole(%x, %d): %x, %d, %d", bits(x), mode, bits(y), flags, err)
			}
		}
	}
}

// clamped is what Int and Uint ask of a whole number, in integers without end.
func clamped(whole float64, flags int, least, greatest *big.Int) (*big.Int, int) {
	switch {
	case math.IsInf(whole, 1):
		return greatest, api.FlagInvalid
	case math.IsInf(whole, -1):
		return least, api.FlagInvalid
	}
	n, _ := new(big.Float).SetFloat64(whole).Int(nil)
	if n.Cmp(least) < 0 {
		return least, api.FlagInvalid
	}
	if n.Cmp(greatest) > 0 {
		return greatest, api.FlagInvalid
	}
	return n, flags
}

func TestIntAndUint(t *testing.T) {
	wrong := 0
	one := big.NewInt(1)
	for _, width := range []uint{8, 16, 32, 64} {
		greatest := new(big.Int).Sub(new(big.Int).Lsh(one, width-1), one)
		least := new(big.Int).Not(greatest)
		top := new(big.Int).Sub(new(big.Int).Lsh(one, width), one)
		for _, x := range append(finite(), inf, -inf) {
			for _, mode := range modes {
				whole, flag := x, 0
				if x != 0 && !math.IsInf(x, 0) {
					whole, flag = wholeRounded(exactly(x), mode)
				}
				want, flags := clamped(whole, flag, least, greatest)
				if n, k, err := convert.Int(x, int(width), mode); n != want.Int64() || k != flags || err != api.OK {
					t.Errorf("Int(%x, %d, %d): %d, %d, %d, not %d, %d", x, width, mode, n, k, err, want, flags)
					few(t, &wrong)
				}
				want, flags = clamped(whole, flag, new(big.Int), top)
				if n, k, err := convert.Uint(x, int(width), mode); n != want.Uint64() || k != flags || err != api.OK {
					t.Errorf("Uint(%x, %d, %d): %d, %d, %d, not %d, %d", x, width, mode, n, k, err, want, flags)
					few(t, &wrong)
				}
			}
		}
	}
}

func TestIntExamples(t *testing.T) {
	for _, c := range []struct {
		x     float64
		width int
		mode  int
		want  int64
		flags int
	}{
		{300, 8, api.ModeNear, 127, 8}, {127.5, 8, api.ModeNear, 127, 8}, {127.5, 8, api.ModeZero, 127, 1}, {-128.5, 8, api.ModeNear, -128, 1},
		{-128.5, 8, api.ModeAway, -128, 8}, {-128.5, 8, api.ModeDown, -128, 8}, {-128, 8, api.ModeDown, -128, 0}, {127, 8, api.ModeUp, 127, 0}, {128, 8, api.ModeZero, 127, 8},
		{0x1p15, 16, api.ModeUp, 32767, 8}, {-0x1p15, 16, api.ModeUp, -32768, 0}, {0x1p31, 32, api.ModeUp, math.MaxInt32, 8}, {-0x1p31, 32, api.ModeUp, math.MinInt32, 0},
		{0x1p63, 64, api.ModeNear, math.MaxInt64, 8}, {-0x1p63, 64, api.ModeNear, math.MinInt64, 0}, {-0x1.0000000000001p63, 64, api.ModeNear, math.MinInt64, 8},
		{0x1.fffffffffffffp62, 64, api.ModeNear, 1<<63 - 1024, 0}, {inf, 64, api.ModeDown, math.MaxInt64, 8}, {-inf, 32, api.ModeUp, math.MinInt32, 8}, {minusZero, 8, api.ModeDown, 0, 0},
		{math.MaxFloat64, 64, api.ModeZero, math.MaxInt64, 8}, {-math.MaxFloat64, 64, api.ModeZero, math.MinInt64, 8}, {-0.5, 64, api.ModeDown, -1, 1},
	} {
		if n, k, err := convert.Int(c.x, c.width, c.mode); n != c.want || k != c.flags || err != api.OK {
			t.Errorf("Int(%v, %d, %d): %d, %d, %d", c.x, c.width, c.mode, n, k, err)
		}
	}
	for _, c := range []struct {
		x     float64
		width int
		mode  int
		want  uint64
		flags int
	}{
		{-0.4, 16, api.ModeNear, 0, 1}, {-0.4, 16, api.ModeDown, 0, 8}, {-0.5, 16, api.ModeAway, 0, 8}, {-0.5, 16, api.ModeNear, 0, 1}, {-1, 8, api.ModeUp, 0, 8}, {-0.9, 8, api.ModeUp, 0, 1},
		{255, 8, api.ModeUp, 255, 0}, {255.5, 8, api.ModeNear, 255, 8}, {255.5, 8, api.ModeZero, 255, 1}, {256, 8, api.ModeZero, 255, 8}, {0x1p16, 16, api.ModeZero, 65535, 8},
		{0x1p32, 32, api.ModeZero, math.MaxUint32, 8}, {0x1p64, 64, api.ModeZero, math.MaxUint64, 8}, {0x1p63, 64, api.ModeZero, 1 << 63, 0}, {0x1.fffffffffffffp63, 64, api.ModeZero, 1<<64 - 2048, 0},
		{inf, 64, api.ModeZero, math.MaxUint64, 8}, {-inf, 64, api.ModeZero, 0, 8}, {minusZero, 64, api.ModeDown, 0, 0},
	} {
		if n, k, err := convert.Uint(c.x, c.width, c.mode); n != c.want || k != c.flags || err != api.OK {
			t.Errorf("Uint(%v, %d, %d): %d, %d, %d", c.x, c.width, c.mode, n, k, err)
		}
	}
	for _, x := range nans() {
		for _, width := range []int{8, 16, 32, 64} {
			for _, mode := range modes {
				if n, k, err := convert.Int(x, width, mode); n != 0 || k != 8 || err != api.OK {
					t.Errorf("Int(%x, %d, %d): %d, %d, %d", bits(x), width, mode, n, k, err)
				}
				if n, k, err := convert.Uint(x, width, mode); n != 0 || k != 8 || err != api.OK {
					t.Errorf("Uint(%x, %d, %d): %d, %d, %d", bits(x), width, mode, n, k, err)
				}
			}
		}
	}
}

// words are whole numbers around the powers of 2 and the ties of both formats.
func words() []uint64 {
	out := []uint64{0}
	for k := range 64 {
		for _, d := range []uint64{0, 1, 2, 3} {
			out = append(out, 1<<k+d, 1<<k-d, 1<<k+1<<max(k-24, 0)+d, 1<<k+1<<max(k-24, 0)-d, 1<<k+1<<max(k-53, 0)+d, 1<<k+3<<max(k-24, 0), 1<<k+3<<max(k-53, 0))
		}
	}
	r := rand.New(rand.NewSource(4))
	for range 3000 {
		out = append(out, r.Uint64()>>r.Intn(64))
	}
	return append(out, math.MaxUint64, math.MaxInt64)
}

func wantWhole(n *big.Int, f format, mode int) (float64, int) {
	if n.Sign() == 0 {
		return 0, 0
	}
	return rounded(new(big.Rat).SetInt(n), f, mode)
}

func TestFromIntegers(t *testing.T) {
	wrong := 0
	for _, w := range words() {
		for _, mode := range modes {
			want, flags := wantWhole(new(big.Int).SetUint64(w), number, mode)
			if got := toldWide(convert.FromUint(w, mode)); !got.is(want, flags) {
				t.Errorf("FromUint(%d, %d): %+v", w, mode, got)
				few(t, &wrong)
			}
			for _, n := range []int64{int64(w), -int64(w)} {
				want, flags := wantWhole(big.NewInt(n), number, mode)
				if got := toldWide(convert.FromInt(n, mode)); !got.is(want, flags) {
					t.Errorf("FromInt(%d, %d): %+v", n, mode, got)
					few(t, &wrong)
				}
				want, flags = wantWhole(big.NewInt(n), single, mode)
				if got := told(convert.NarrowInt(n, mode)); !got.is(float32(want), flags) {
					t.Errorf("NarrowInt(%d, %d): %+v", n, mode, got)
					few(t, &wrong)
				}
			}
		}
	}
}

func TestFromIntegersExamples(t *testing.T) {
	if got := toldWide(convert.FromInt(1<<53+1, api.ModeUp)); !got.is(1<<53+2, 1) {
		t.Error(got)
	}
	if got := toldWide(convert.FromInt(math.MinInt64, api.ModeUp)); !got.is(-0x1p63, 0) {
		t.Error(got)
	}
	if got := toldWide(convert.FromUint(math.MaxUint64, api.ModeZero)); !got.is(0x1.fffffffffffffp63, 1) {
		t.Error(got)
	}
	// Rounded once: by way of binary64 it would be the tie 2^54 + 2^30 first, and then the even one.
	n := int64(1<<54 + 1<<30 + 1)
	if got := told(convert.NarrowInt(n, api.ModeNear)); !got.is(0x1p54+0x1p31, 1) || bits32(got.f) == bits32(float32(float64(n))) {
		t.Error(got)
	}
	for _, mode := range modes {
		if !toldWide(convert.FromInt(0, mode)).is(0, 0) || !toldWide(convert.FromUint(0, mode)).is(0, 0) || !told(convert.NarrowInt(0, mode)).is(0, 0) {
			t.Error("of 0", mode)
		}
	}
}

func TestScaleAsTheWordsSay(t *testing.T) {
	wrong := 0
	r := rand.New(rand.NewSource(5))
	all := finite()
	for i := 0; i < len(all); i += 7 {
		x := all[i]
		_, e := math.Frexp(x)
		for _, k := range []int{0, 1, -1, -1074 - e, -1073 - e + r.Intn(60), -1022 - e, -1021 - e, 1023 - e, 1024 - e, 1025 - e, r.Intn(5000) - 2500} {
			for _, mode := range modes {
				want, flags := x, 0
				if x != 0 {
					want, flags = rounded(new(big.Rat).Mul(exactly(x), power(k)), number, mode)
				}
				if got := toldWide(convert.Scale(x, k, mode)); !got.is(want, flags) {
					t.Errorf("Scale(%x, %d, %d): %+v, not %x, %d", x, k, mode, got, want, flags)
					few(t, &wrong)
				}
			}
		}
	}
}

func TestScaleFarOut(t *testing.T) {
	least, greatest := math.SmallestNonzeroFloat64, math.MaxFloat64
	over := [5]float64{inf, inf, greatest, inf, greatest}
	under := [5]float64{0, 0, 0, least, 0}
	for _, x := range []float64{least, 1, greatest, 0.1} {
		for _, k := range []int{2100, 8191, 8192, 8193, 1 << 20, math.MaxInt32, math.MaxInt - 1074, math.MaxInt - 1, math.MaxInt} {
			for _, mode := range modes {
				turned := opposite(mode)
				for _, c := range []struct {
					x     float64
					k     int
					want  float64
					flags int
				}{
					{x, k, over[mode], 5}, {-x, k, -over[turned], 5},
					{x, -k - 1, under[mode], 3}, {-x, -k - 1, math.Copysign(under[turned], -1), 3},
				} {
					if got := toldWide(convert.Scale(c.x, c.k, mode)); !got.is(c.want, c.flags) {
						t.Errorf("Scale(%x, %d, %d): %+v", c.x, c.k, mode, got)
					}
				}
			}
		}
	}
	for _, k := range []int{0, 1, -1, 5000, -5000, math.MaxInt, math.MinInt} {
		for _, mode := range modes {
			for _, x := range []float64{0, minusZero, inf, -inf} {
				if got := toldWide(convert.Scale(x, k, mode)); !got.is(x, 0) {
					t.Errorf("Scale(%v, %d, %d): %+v", x, k, mode, got)
				}
			}
			for _, x := range nans() {
				if y, flags, err := convert.Scale(x, k, mode); bits(y) != theNaN || flags != 0 || err != api.OK {
					t.Errorf("Scale(%x, %d, %d): %x, %d, %d", bits(x), k, mode, bits(y), flags, err)
				}
			}
		}
	}
}

func TestScaleExamples(t *testing.T) {
	least := math.SmallestNonzeroFloat64
	for _, mode := range modes {
		if got := toldWide(convert.Scale(1, -1074, mode)); !got.is(least, 0) {
			t.Error(got)
		}
	}
	if got := toldWide(convert.Scale(3, -1076, api.ModeUp)); !got.is(least, 3) {
		t.Error(got)
	}
	if got := toldWide(convert.Scale(1, 2000, api.ModeZero)); !got.is(math.MaxFloat64, 5) {
		t.Error(got)
	}
	// A subnormal comes up whole again; a hair above a tie is no tie.
	if got := toldWide(convert.Scale(least, 2097, api.ModeDown)); !got.is(0x1p1023, 0) {
		t.Error(got)
	}
	if got := toldWide(convert.Scale(0x1.4000000000001p-1022, -51, api.ModeNear)); !got.is(3*least, 3) {
		t.Error(got)
	}
}
