package convert_test

import (
	"math"
	"testing"

	"binnacle/api"
	"binnacle/convert"
)

func TestNoSuchMode(t *testing.T) {
	nought, noughtWide := said{0, 0, api.ErrMode}, saidWide{0, 0, api.ErrMode}
	odd := []float64{1.1, minusZero, inf, -inf, math.NaN(), 1e300, 1e-300}
	for _, mode := range noModes {
		for _, x := range odd {
			f := float32(x)
			for i, got := range []said{
				told(convert.Narrow(x, mode)), told(convert.NarrowInt(-1<<30-1, mode)),
				told(convert.Add(f, 0.3, mode)), told(convert.Sub(f, 0.3, mode)), told(convert.Mul(f, 0.3, mode)), told(convert.Div(f, 0, mode)), told(convert.Root(f, mode)), told(convert.Fused(f, f, 1, mode)),
			} {
				if got != nought || math.Signbit(float64(got.f)) {
					t.Errorf("call %d of %v, %d: %+v", i, x, mode, got)
				}
			}
			for i, got := range []saidWide{
				toldWide(convert.Whole(x, mode)), toldWide(convert.Scale(x, -1080, mode)), toldWide(convert.FromInt(-1<<60-1, mode)), toldWide(convert.FromUint(math.MaxUint64, mode)),
			} {
				if got != noughtWide || math.Signbit(got.x) {
					t.Errorf("call %d of %v, %d: %+v", i, x, mode, got)
				}
			}
			// ErrMode comes ahead of ErrWidth.
			for _, width := range []int{8, 64, 7} {
				if n, flags, err := convert.Int(x, width, mode); n != 0 || flags != 0 || err != api.ErrMode {
					t.Errorf("Int(%v, %d, %d): %d, %d, %d", x, width, mode, n, flags, err)
				}
				if n, flags, err := convert.Uint(x, width, mode); n != 0 || flags != 0 || err != api.ErrMode {
					t.Errorf("Uint(%v, %d, %d): %d, %d, %d", x, width, mode, n, flags, err)
				}
			}
		}
	}
}

func TestNoSuchWidth(t *testing.T) {
	for _, width := range []int{0, 1, 7, 9, 15, 17, 24, 31, 33, 63, 65, 128, -8, -64, math.MaxInt, math.MinInt} {
		for _, mode := range modes {
			for _, x := range []float64{1, 1.5, -300, inf, math.NaN(), minusZero} {
				if n, flags, err := convert.Int(x, width, mode); n != 0 || flags != 0 || err != api.ErrWidth {
					t.Errorf("Int(%v, %d, %d): %d, %d, %d", x, width, mode, n, flags, err)
				}
				if n, flags, err := convert.Uint(x, width, mode); n != 0 || flags != 0 || err != api.ErrWidth {
					t.Errorf("Uint(%v, %d, %d): %d, %d, %d", x, width, mode, n, flags, err)
				}
			}
		}
	}
}
