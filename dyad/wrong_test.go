package dyad_test

import (
	"math"
	"testing"

	"binnacle/api"
	"binnacle/dyad"
)

// refusedNumber tells that a call that answers a number answered +0 beside an error.
func refusedNumber(x float64, got, want api.Errno) bool {
	return math.Float64bits(x) == 0 && got == want
}

func TestDyadsThatMayNotBe(t *testing.T) {
	good := []api.Dyad{{}, pow(0), {Neg: true, Mag: ones(2048), Exp: 100000}}
	for _, bad := range none() {
		// ErrDyad comes ahead of ErrMode, and of ErrLong.
		for _, mode := range append(noModes, modes...) {
			if got := told(dyad.Whole(bad, mode)); !got.refused(api.ErrDyad) {
				t.Errorf("Whole(%v, %d): %v", brief(bad), mode, got.brief())
			}
			if x, err := dyad.Round(bad, mode); !refusedNumber(x, err, api.ErrDyad) {
				t.Errorf("Round(%v, %d): %v, %d", brief(bad), mode, x, err)
			}
			if x, err := dyad.Round32(bad, mode); !refusedNumber(float64(x), err, api.ErrDyad) {
				t.Errorf("Round32(%v, %d): %v, %d", brief(bad), mode, x, err)
			}
		}
		for _, n := range []int{0, 1, 200001, math.MaxInt, math.MinInt} {
			if got := told(dyad.Shift(bad, n)); !got.refused(api.ErrDyad) {
				t.Errorf("Shift(%v, %d): %v", brief(bad), n, got.brief())
			}
		}
		if got := told(dyad.Neg(bad)); !got.refused(api.ErrDyad) {
			t.Errorf("Neg(%v): %v", brief(bad), got.brief())
		}
		for _, d := range append(none(), good...) {
			for _, p := range [][2]api.Dyad{{bad, d}, {d, bad}} {
				for i, got := range []said{told(dyad.Add(p[0], p[1])), told(dyad.Sub(p[0], p[1])), told(dyad.Mul(p[0], p[1]))} {
					if !got.refused(api.ErrDyad) {
						t.Errorf("call %d of %v, %v: %v", i, brief(p[0]), brief(p[1]), got.brief())
					}
				}
				if k, err := dyad.Compare(p[0], p[1]); k != 0 || err != api.ErrDyad {
					t.Errorf("Compare(%v, %v): %d, %d", brief(p[0]), brief(p[1]), k, err)
				}
			}
		}
	}
}

func TestNoSuchMode(t *testing.T) {
	for _, mode := range noModes {
		for _, d := range []api.Dyad{{}, pow(0), pow(-1), {Neg: true, Mag: []uint32{5}, Exp: -1}, pow(5000), {Neg: true, Mag: []uint32{1}, Exp: -100000}, {Mag: ones(2048), Exp: -3}} {
			if got := told(dyad.Whole(d, mode)); !got.refused(api.ErrMode) {
				t.Errorf("Whole(%v, %d): %v", brief(d), mode, got.brief())
			}
			if x, err := dyad.Round(d, mode); !refusedNumber(x, err, api.ErrMode) {
				t.Errorf("Round(%v, %d): %v, %d", brief(d), mode, x, err)
			}
			if x, err := dyad.Round32(d, mode); !refusedNumber(float64(x), err, api.ErrMode) {
				t.Errorf("Round32(%v, %d): %v, %d", brief(d), mode, x, err)
			}
		}
	}
}
