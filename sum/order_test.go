package sum_test

import (
	"math"
	"math/rand"
	"testing"

	"binnacle/sum"
)

// P5.1 to P5.4: step by step, for any lists.
func TestStepByStep(t *testing.T) {
	wrong := 0
	for _, l := range anyLists() {
		var s steps
		for _, c := range []struct {
			name      string
			got, want float64
		}{
			{"Left", sum.Left(l), s.left(l)},
			{"Pairs", sum.Pairs(l), s.pairs(l)},
			{"Kahan", sum.Kahan(l), s.kahan(l)},
			{"Neumaier", sum.Neumaier(l), s.neumaier(l)},
		} {
			if !same(c.got, canon(c.want)) {
				t.Errorf("%s of %d numbers %x: %x, not %x", c.name, len(l), brief(l), c.got, c.want)
				few(t, &wrong)
			}
		}
	}
}

// P5.1: as many as the list has, each the sum of a beginning.
func TestRunning(t *testing.T) {
	for _, l := range anyLists() {
		got := sum.Running(l)
		if len(got) != len(l) {
			t.Fatalf("Running of %d numbers has %d", len(l), len(got))
		}
		var s steps
		at := 0.0
		for i, x := range l {
			if at = s.add(at, x); !same(got[i], canon(at)) {
				t.Errorf("Running of %d numbers %x: %x at %d, not %x", len(l), brief(l), got[i], i, at)
				break
			}
		}
		for i := range min(len(l), 20) {
			if x := sum.Left(l[:i+1]); !same(got[i], x) {
				t.Errorf("Running of %x: %x at %d, Left of that beginning %x", brief(l), got[i], i, x)
			}
		}
	}
}

// P5.12.
func TestOnesEnd(t *testing.T) {
	for _, l := range anyLists() {
		left := sum.Left(l)
		if r := sum.Running(l); len(l) > 0 && !same(r[len(r)-1], left) {
			t.Errorf("Running of %x ends with %x, Left is %x", brief(l), r[len(r)-1], left)
		}
		if x := sum.Left(append(append([]float64(nil), l...), 0)); !same(x, left) {
			t.Errorf("Left of %x: %x, with +0 behind it %x", brief(l), left, x)
		}
	}
}

// P5.2: where a list is cut, of all counts up to some powers of 2, and beside greater ones.
func TestPairsCutsAtPowers(t *testing.T) {
	r := rand.New(rand.NewSource(5))
	var ns []int
	for n := range 140 {
		ns = append(ns, n)
	}
	for _, n := range append(ns, 255, 256, 257, 1023, 1024, 1025, 4095, 4096, 4097, 5000, 1<<16-1, 1<<16, 1<<16+1) {
		for range 5 {
			l := fill(n, func(int) float64 { return near(r, 0, 10) })
			var s steps
			if got, want := sum.Pairs(l), s.pairs(l); !same(got, want) {
				t.Errorf("Pairs of %d numbers: %x, not %x", n, got, want)
			}
		}
	}
	for _, c := range []struct {
		l    []float64
		want float64
	}{
		{[]float64{1, 0x1p53, -0x1p53}, 0}, // (1 + 2^53) + -2^53
		{[]float64{0x1p53, 1, 1}, 0x1p53},
		{[]float64{1, 1, 0x1p53}, 0x1p53 + 2},
		{[]float64{0x1p53, -0x1p53, 1, 1, 1}, 3},
		{[]float64{1, 0x1p53, -0x1p53, 1, 1}, 2}, // ((1 + 2^53) + (-2^53 + 1)) + 1
		{[]float64{0x1p53, 1, 1, 1, -0x1p53}, 2}, // ((2^53 + 1) + (1 + 1)) + -2^53
	} {
		if got := sum.Pairs(c.l); !same(got, c.want) {
			t.Errorf("Pairs(%x): %x, not %x", c.l, got, c.want)
		}
	}
}

func TestOrderExamples(t *testing.T) {
	example := []float64{1, 0x1p100, 1, -0x1p100}
	for i, c := range []struct{ got, want float64 }{
		{sum.Left(example), 0}, {sum.Pairs(example), 0}, {sum.Kahan(example), 0}, {sum.Neumaier(example), 2},
		{sum.Kahan([]float64{1, 0x1p53, -0x1p53}), 1},
		{sum.Left(nil), 0}, {sum.Pairs(nil), 0}, {sum.Kahan(nil), 0}, {sum.Neumaier(nil), 0},
		{sum.Left([]float64{minus}), 0}, {sum.Left([]float64{minus, minus}), 0}, {sum.Kahan([]float64{minus}), 0}, {sum.Neumaier([]float64{minus}), 0},
		{sum.Pairs([]float64{minus}), minus}, {sum.Pairs([]float64{minus, minus, minus}), minus}, {sum.Pairs([]float64{minus, 0}), 0}, {sum.Pairs([]float64{minus, minus, 0, minus}), 0},
		{sum.Left([]float64{inf}), inf}, {sum.Left([]float64{1, -inf}), -inf}, {sum.Left([]float64{inf, -inf}), theNaN}, {sum.Left([]float64{most, most, -most}), inf}, {sum.Left([]float64{most, most, -inf}), theNaN},
		{sum.Pairs([]float64{inf}), inf}, {sum.Pairs([]float64{inf, 1, -inf}), theNaN}, {sum.Pairs([]float64{most, -most, most}), most},
		{sum.Kahan([]float64{inf}), inf}, {sum.Kahan([]float64{inf, 1}), theNaN}, {sum.Kahan([]float64{1, -inf}), -inf},
		{sum.Neumaier([]float64{inf}), theNaN}, {sum.Neumaier([]float64{most, most}), theNaN}, {sum.Neumaier([]float64{most, -most, 1}), 1},
		{sum.Neumaier([]float64{1, 0x1p53, -0x1p53}), 1}, {sum.Neumaier([]float64{0x1p53, 1, -0x1p53}), 1},
		{sum.Left([]float64{least, least}), 0x1p-1073}, {sum.Kahan([]float64{least, -least}), 0},
	} {
		if !same(c.got, c.want) {
			t.Errorf("case %d: %x, not %x", i, c.got, c.want)
		}
	}
	for _, x := range wild()[2:] {
		l := []float64{x}
		for i, got := range []float64{sum.Left(l), sum.Running(l)[0], sum.Pairs(l), sum.Kahan(l), sum.Neumaier(l)} {
			if !same(got, theNaN) {
				t.Errorf("call %d of the NaN %x: %x", i, math.Float64bits(x), math.Float64bits(got))
			}
		}
	}
}

// Sums that aren't exact take more than MaxSum numbers.
func TestManyNumbers(t *testing.T) {
	const n = 1 << 17
	l := repeat(n, 0.5)
	for i, got := range []float64{sum.Left(l), sum.Running(l)[n-1], sum.Pairs(l), sum.Kahan(l), sum.Neumaier(l)} {
		if got != n/2 {
			t.Errorf("call %d: %v", i, got)
		}
	}
}
