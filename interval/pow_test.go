package interval_test

import (
	"math"
	"testing"

	"binnacle/api"
	"binnacle/interval"
)

// P6.3: Pow is the closure, whatever the power.
func TestPow(t *testing.T) {
	wrong := 0
	for i, a := range append(intervals(), none()...) {
		for n := range api.MaxPow + 1 {
			// All powers of the named ones; of the others a few, in turn.
			if i > 100 && (i+n)%4 != 0 {
				continue
			}
			if got, want := told(interval.Pow(a, n)), (made{closure(powers(a, n)), api.OK}); !got.is(want) {
				t.Errorf("Pow(%x, %d): %x, not %x", a, n, got, want)
				few(t, &wrong)
			}
		}
	}
}

// P6.3: Pow, case by case.
func TestPowCases(t *testing.T) {
	for i, c := range []struct {
		a    api.Interval
		n    int
		want api.Interval
	}{
		// Even and odd powers over 0.
		{iv(-2, 1), 2, iv(0, 4)}, {iv(-2, 1), 3, iv(-8, 1)}, {iv(-1, 2), 2, iv(0, 4)}, {iv(-1, 2), 3, iv(-1, 8)}, {iv(-3, -2), 2, iv(4, 9)}, {iv(-3, -2), 3, iv(-27, -8)}, {iv(-3, minus), 2, iv(0, 9)}, {iv(minus, 3), 3, iv(0, 27)}, {iv(-3, minus), 3, iv(-27, 0)}, {point(minus), 7, point(0)}, {point(minus), 1, point(0)}, {point(0), 16, point(0)},
		// The power 0 and the power 1.
		{all, 0, point(1)}, {point(0), 0, point(1)}, {iv(-inf, -most), 0, point(1)}, {empty, 0, empty}, {iv(2, 1), 0, empty}, {iv(theNaN, 1), 0, empty}, {iv(-2, 1), 1, iv(-2, 1)}, {point(most), 1, point(most)}, {point(-least), 1, point(-least)}, {iv(-inf, 0.1), 1, iv(-inf, 0.1)}, {empty, 1, empty}, {empty, 2, empty}, {empty, 16, empty}, {iv(1, theNaN), 3, empty},
		// MaxPow, exact and not.
		{point(2), 16, point(65536)}, {point(-2), 15, point(-32768)}, {point(3), 16, point(43046721)}, {point(-1), 15, point(-1)}, {iv(-1, 1), 16, iv(0, 1)}, {point(0x1p-67), 16, point(0x1p-1072)}, {point(0x1p63), 16, point(0x1p1008)}, {point(0x1p64), 16, iv(most, inf)}, {point(10), 16, iv(1e16, 1e16)}, {point(next(1)), 16, iv(1+0x1p-48, next(1+0x1p-48))}, {point(7), 16, point(33232930569601)},
		// The last digits alone tell that it isn't exact.
		{point(0x1p40 + 1), 3, iv(0x1p120+0x3p80, next(0x1p120+0x3p80))}, {point(-0x1p40 - 1), 3, iv(prev(-0x1p120-0x3p80), -0x1p120-0x3p80)}, {point(0x1p50 + 1), 3, iv(0x1p150+0x3p100, next(0x1p150+0x3p100))}, {point(0x1p50 + 1), 4, iv(0x1p200+0x1p152, next(0x1p200+0x1p152))},
		// Beyond the greatest number and below what numbers can hold.
		{point(most), 2, iv(most, inf)}, {point(-most), 2, iv(most, inf)}, {point(-most), 3, iv(-inf, -most)}, {point(most), 16, iv(most, inf)}, {point(least), 2, iv(0, least)}, {point(-least), 2, iv(0, least)}, {point(-least), 3, iv(-least, 0)}, {point(least), 16, iv(0, least)}, {point(-least), 15, iv(-least, 0)}, {point(0x1p-537), 2, point(least)}, {point(0x1p-358), 3, point(least)}, {point(0x3p-538), 2, iv(0x2p-1074, 0x3p-1074)},
		// Infinite ends.
		{all, 2, iv(0, inf)}, {all, 3, all}, {all, 1, all}, {all, 16, iv(0, inf)}, {iv(-inf, -1), 2, iv(1, inf)}, {iv(-inf, -1), 3, iv(-inf, -1)}, {iv(2, inf), 5, iv(32, inf)}, {iv(-inf, 2), 2, iv(0, inf)}, {iv(-inf, 2), 5, iv(-inf, 32)}, {iv(most, inf), 2, iv(most, inf)}, {iv(-inf, -most), 3, iv(-inf, -most)}, {iv(-inf, minus), 4, iv(0, inf)},
	} {
		if got := told(interval.Pow(c.a, c.n)); !got.is(made{c.want, api.OK}) {
			t.Errorf("case %d: %x, not %x", i, got, c.want)
		}
	}
}

// P6.3: powers that may not be, whatever they are of.
func TestPowRefuses(t *testing.T) {
	for _, n := range []int{-1, 17, 18, 32, -2, -16, math.MaxInt, math.MinInt, 1 << 20, math.MinInt + 1} {
		for _, a := range []api.Interval{point(1), all, empty, point(0), iv(2, 1), iv(theNaN, theNaN), iv(-inf, 3)} {
			if got := told(interval.Pow(a, n)); !got.refused(api.ErrRange) {
				t.Errorf("Pow(%x, %d): %x", a, n, got)
			}
		}
	}
}
