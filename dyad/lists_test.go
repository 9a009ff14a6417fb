package dyad_test

import (
	"math"
	"math/big"
	"math/rand"
	"slices"
	"testing"

	"binnacle/api"
	"binnacle/dyad"
)

func exactSum(l []float64) exact {
	s := exact{big.NewInt(0), 0}
	for _, x := range l {
		s = s.add(exactFloat(x))
	}
	return s
}

func exactDot(a, b []float64) exact {
	s := exact{big.NewInt(0), 0}
	for i := range a {
		s = s.add(exactFloat(a[i]).mul(exactFloat(b[i])))
	}
	return s
}

// lists are finite numbers: none, few, many; all of one kind; such as cancel.
func lists() [][]float64 {
	all := finite()
	out := [][]float64{nil, {}, {0}, {math.Copysign(0, -1)}, {1}, {1, 0x1p60, -0x1p60, 0x1p-1074}, {0x1p-1074, -0x1p-1074}, {math.MaxFloat64, math.MaxFloat64}, {math.MaxFloat64, -math.MaxFloat64, -0x1p-1074}, all}
	for _, x := range []float64{math.MaxFloat64, -math.MaxFloat64, 0x1p-1074, 1, -0.1, 0x1.fffffffffffffp-1022} {
		out = append(out, slices.Repeat([]float64{x}, 5000))
	}
	r := rand.New(rand.NewSource(4))
	for range 300 {
		l := make([]float64, r.Intn(30))
		for i := range l {
			if l[i] = all[r.Intn(len(all))]; i > 0 && r.Intn(3) == 0 {
				l[i] = -l[r.Intn(i)]
			}
		}
		out = append(out, l)
	}
	return out
}

func TestSum(t *testing.T) {
	for _, l := range lists() {
		if got, want := told(dyad.Sum(l)), told(exactSum(l).dyad()); !got.is(want) || got.err != api.OK {
			t.Errorf("Sum of %d numbers: %v, not %v", len(l), got.brief(), want.brief())
		}
	}
}

func TestSumHangsOnNoOrder(t *testing.T) {
	r := rand.New(rand.NewSource(5))
	for _, l := range lists() {
		mixed := slices.Clone(l)
		r.Shuffle(len(mixed), func(i, j int) { mixed[i], mixed[j] = mixed[j], mixed[i] })
		if a, b := told(dyad.Sum(l)), told(dyad.Sum(mixed)); !a.is(b) {
			t.Errorf("Sum of %d numbers: %v, mixed %v", len(l), a.brief(), b.brief())
		}
	}
}

func TestDot(t *testing.T) {
	r := rand.New(rand.NewSource(6))
	for _, a := range lists() {
		others := [][]float64{slices.Clone(a), slices.Clone(a), slices.Repeat([]float64{math.MaxFloat64}, len(a)), slices.Repeat([]float64{-0x1p-1074}, len(a)), make([]float64, len(a))}
		r.Shuffle(len(a), func(i, j int) { others[1][i], others[1][j] = others[1][j], others[1][i] })
		for _, b := range others {
			if got, want := told(dyad.Dot(a, b)), told(exactDot(a, b).dyad()); !got.is(want) || got.err != api.OK {
				t.Errorf("Dot of %d pairs: %v, not %v", len(a), got.brief(), want.brief())
			}
		}
	}
}

func TestDotOfEnds(t *testing.T) {
	least, greatest := 0x1p-1074, math.MaxFloat64
	for _, c := range []struct{ a, b []float64 }{
		{[]float64{least}, []float64{least}},
		{[]float64{greatest}, []float64{-greatest}},
		{[]float64{greatest, least}, []float64{greatest, least}},
		{[]float64{greatest, greatest, -least}, []float64{greatest, -greatest, least}},
		{[]float64{0x1p1023, 0x1p1023}, []float64{0x1p1023, 0x1p1023}},
	} {
		if got, want := told(dyad.Dot(c.a, c.b)), told(exactDot(c.a, c.b).dyad()); !got.is(want) || got.err != api.OK {
			t.Errorf("Dot(%x, %x): %v, not %v", c.a, c.b, got.brief(), want.brief())
		}
	}
}

func TestListsExamples(t *testing.T) {
	long := api.Dyad{Mag: ends(1075), Exp: -1074}
	if got := told(dyad.Sum([]float64{1, 0x1p60, -0x1p60, 0x1p-1074})); !got.is(said{long, api.OK}) {
		t.Errorf("Sum(1, 2^60, -2^60, 2^-1074): %v", got.brief())
	}
	if got := told(dyad.Dot([]float64{1, 2}, []float64{3, 4})); !got.is(said{api.Dyad{Mag: []uint32{11}}, api.OK}) {
		t.Errorf("Dot({1, 2}, {3, 4}): %v", got)
	}
	if got := told(dyad.Dot([]float64{1}, []float64{})); !got.refused(api.ErrShape) {
		t.Errorf("Dot({1}, {}): %v", got)
	}
}

func TestEmptyLists(t *testing.T) {
	empty := []float64{}
	for i, got := range []said{told(dyad.Sum(nil)), told(dyad.Sum(empty)), told(dyad.Dot(nil, nil)), told(dyad.Dot(nil, empty)), told(dyad.Dot(empty, nil)), told(dyad.Dot(empty, empty))} {
		if !got.refused(api.OK) {
			t.Errorf("case %d: %v", i, got)
		}
	}
}

func TestListsThatAreRefused(t *testing.T) {
	for _, bad := range notFinite() {
		for _, l := range [][]float64{{bad}, {bad, 1, 2}, {1, 2, bad}, {0, bad, -bad}} {
			zeros := make([]float64, len(l))
			for i, got := range []said{told(dyad.Sum(l)), told(dyad.Dot(l, zeros)), told(dyad.Dot(zeros, l)), told(dyad.Dot(l, l))} {
				if !got.refused(api.ErrNumber) {
					t.Errorf("call %d of %v: %v", i, l, got)
				}
			}
			// ErrShape comes ahead of ErrNumber.
			for i, got := range []said{told(dyad.Dot(l, nil)), told(dyad.Dot(nil, l)), told(dyad.Dot(l, append(zeros, 1))), told(dyad.Dot(append(zeros, 1), l))} {
				if !got.refused(api.ErrShape) {
					t.Errorf("call %d of %v with another length: %v", i, l, got)
				}
			}
		}
	}
	for _, c := range [][2][]float64{{{1}, nil}, {nil, {1}}, {{1, 2}, {1}}, {{1}, {1, 2}}, {{0}, {}}} {
		if got := told(dyad.Dot(c[0], c[1])); !got.refused(api.ErrShape) {
			t.Errorf("Dot(%v, %v): %v", c[0], c[1], got)
		}
	}
}
