package dyad_test

import (
	"math"
	"math/rand"
	"testing"

	"binnacle/api"
	"binnacle/dyad"
)

func TestMay(t *testing.T) {
	for _, d := range append(dyads(), api.Dyad{Mag: []uint32{}}) {
		if !dyad.May(d) {
			t.Errorf("May(%v) is false", brief(d))
		}
	}
	for _, d := range none() {
		if dyad.May(d) {
			t.Errorf("May(%v) is true", brief(d))
		}
	}
}

func TestMakeKeepsWhatMayBe(t *testing.T) {
	for _, d := range dyads() {
		if got := told(dyad.Make(d.Neg, d.Mag, d.Exp)); !got.is(said{d, api.OK}) {
			t.Errorf("Make of %v: %v", brief(d), got.brief())
		}
	}
}

func TestMakeOfZero(t *testing.T) {
	for _, mag := range [][]uint32{nil, {}, {0}, {0, 0, 0}, make([]uint32, 5000)} {
		for _, exp := range []int{0, 9, -9, 100001, -100001, math.MaxInt, math.MinInt} {
			for _, neg := range []bool{false, true} {
				if got := told(dyad.Make(neg, mag, exp)); !got.refused(api.OK) {
					t.Errorf("Make(%v, %d zeros, %d): %v", neg, len(mag), exp, got)
				}
			}
		}
	}
}

// shifted is a magnitude with so many zero bits below it, and so many zero words at its end.
func shifted(mag []uint32, bits int, behind int) []uint32 {
	x := exactOf(api.Dyad{Mag: mag})
	return append(wordsOf(x.m.Lsh(x.m, uint(bits))), make([]uint32, behind)...)
}

func TestMakeWritesInOneWay(t *testing.T) {
	r := rand.New(rand.NewSource(3))
	wrong := 0
	for range 2000 {
		d := chance(r, 6, -300, 300)
		zeros := r.Intn(200)
		if got := told(dyad.Make(d.Neg, shifted(d.Mag, zeros, r.Intn(3)), d.Exp-zeros)); !got.is(said{d, api.OK}) {
			t.Errorf("Make of %v with %d zeros: %v", d, zeros, got)
			few(t, &wrong)
		}
	}
}

func TestMakeAtTheLimits(t *testing.T) {
	for _, c := range []struct {
		mag []uint32
		exp int
		err api.Errno
	}{
		{ones(2048), 0, api.OK}, {ends(65536), 0, api.OK}, {ends(65537), 0, api.ErrLong}, {ones(2049), 0, api.ErrLong},
		{shifted(ones(2048), 1, 0), 0, api.OK}, {shifted(ones(2048), 31, 4), 0, api.OK}, {shifted(ones(2048), 32, 0), 0, api.OK}, {shifted(ends(65536), 70000, 0), 0, api.OK}, // zeros at either end are no bits of the dyad
		{shifted(ends(65537), 1, 0), 0, api.ErrLong}, {shifted(ends(65537), 31, 0), 0, api.ErrLong}, {shifted(ends(65537), 70000, 0), 0, api.ErrLong}, {ends(200000), 0, api.ErrLong},
		{[]uint32{1}, 100000, api.OK}, {[]uint32{1}, 100001, api.ErrLong}, {[]uint32{1}, -100000, api.OK}, {[]uint32{1}, -100001, api.ErrLong},
		{[]uint32{2}, 99999, api.OK}, {[]uint32{2}, 100000, api.ErrLong}, {[]uint32{2}, -100001, api.OK}, {[]uint32{2}, -100002, api.ErrLong},
		{[]uint32{0, 8}, -100035, api.OK}, {[]uint32{0, 8}, -100036, api.ErrLong}, {[]uint32{0, 8}, 99965, api.OK}, {[]uint32{0, 8}, 99966, api.ErrLong}, {[]uint32{0, 1}, 99999, api.ErrLong},
		{shifted([]uint32{5}, 300000, 0), -200000, api.OK}, {shifted([]uint32{5}, 300000, 0), -400000, api.OK}, {shifted([]uint32{5}, 300000, 0), -400001, api.ErrLong}, {shifted([]uint32{5}, 300000, 0), -199999, api.ErrLong},
		{[]uint32{1}, math.MaxInt, api.ErrLong}, {[]uint32{1}, math.MinInt, api.ErrLong}, {[]uint32{0, 0, 4}, math.MaxInt, api.ErrLong}, {[]uint32{4, 0}, math.MaxInt - 1, api.ErrLong}, {[]uint32{0, 4}, math.MaxInt - 31, api.ErrLong}, {[]uint32{0, 4}, math.MinInt, api.ErrLong},
	} {
		for _, neg := range []bool{false, true} {
			got := told(dyad.Make(neg, c.mag, c.exp))
			if c.err != api.OK {
				if !got.refused(c.err) {
					t.Errorf("Make(%v, %d words, %d): %v", neg, len(c.mag), c.exp, got.brief())
				}
				continue
			}
			if want := told(exactOf(api.Dyad{Neg: neg, Mag: c.mag, Exp: c.exp}).dyad()); want.err != api.OK || !got.is(want) {
				t.Errorf("Make(%v, %d words, %d): %v, not %v", neg, len(c.mag), c.exp, got.brief(), want.brief())
			}
		}
	}
}

func TestMakeExamples(t *testing.T) {
	if got := told(dyad.Make(true, []uint32{4, 0}, 3)); !got.is(said{api.Dyad{Neg: true, Mag: []uint32{1}, Exp: 5}, api.OK}) {
		t.Errorf("Make(true, {4, 0}, 3): %v", got)
	}
	if got := told(dyad.Make(true, []uint32{0}, 9)); !got.refused(api.OK) {
		t.Errorf("Make(true, {0}, 9): %v", got)
	}
}

func TestOf(t *testing.T) {
	for _, x := range finite() {
		if got, want := told(dyad.Of(x)), told(exactFloat(x).dyad()); !got.is(want) || got.err != api.OK {
			t.Errorf("Of(%x): %v, not %v", x, got, want)
		}
	}
	for _, c := range []struct {
		x float64
		d api.Dyad
	}{
		{0.5, api.Dyad{Mag: []uint32{1}, Exp: -1}}, {6, api.Dyad{Mag: []uint32{3}, Exp: 1}}, {math.Copysign(0, -1), api.Dyad{}}, {0, api.Dyad{}},
		{-0x1p-1074, api.Dyad{Neg: true, Mag: []uint32{1}, Exp: -1074}}, {math.MaxFloat64, api.Dyad{Mag: []uint32{math.MaxUint32, 1<<21 - 1}, Exp: 971}},
	} {
		if got := told(dyad.Of(c.x)); !got.is(said{c.d, api.OK}) {
			t.Errorf("Of(%x): %v", c.x, got)
		}
	}
}

func TestOfWhatIsNotFinite(t *testing.T) {
	for _, x := range notFinite() {
		if got := told(dyad.Of(x)); !got.refused(api.ErrNumber) {
			t.Errorf("Of(%x): %v", x, got)
		}
	}
}
