package sum_test

import (
	"math"
	"testing"

	"binnacle/api"
	"binnacle/sum"
)

// everyWay are the ways that there are.
var everyWay = [...]api.SumWay{api.WayLeft, api.WayPairs, api.WayKahan, api.WayNeumaier, api.WayExact}

// noWays are none.
func noWays() []api.SumWay { return []api.SumWay{0, 6, -1, 7, 50, math.MaxInt, math.MinInt} }

// with is n noughts with a number at some place.
func with(n, at int, x float64) []float64 {
	out := make([]float64, n)
	out[at] = x
	return out
}

// offRefused tells that Off answers an error beside the zero value.
func offRefused(l []float64, way api.SumWay, want api.Errno) bool {
	d, err := sum.Off(l, way)
	return err == want && !d.Neg && d.Mag == nil && d.Exp == 0
}

// P5.5, P5.6, P5.7, P5.8, P5.9: MaxSum numbers are taken, one more is refused, ahead of what is in the list.
func TestTooManyNumbers(t *testing.T) {
	long, most1 := repeat(4097, 1), repeat(4096, 1)
	for name, c := range map[string]struct {
		got  said
		want float64
	}{
		"Exact": {told(sum.Exact(most1)), 4096}, "Sum": {told(sum.Sum(most1, api.WayExact)), 4096}, "DotExact": {told(sum.DotExact(most1, most1)), 4096}, "Mean": {told(sum.Mean(most1)), 1}, "Norm": {told(sum.Norm(most1)), 64},
	} {
		if !c.got.is(said{c.want, api.OK}) {
			t.Errorf("%s of 4096 numbers: %x", name, c.got)
		}
	}
	tooLong := [][]float64{long, repeat(4097, minus), repeat(5000, most), make([]float64, 1<<16)}
	for _, x := range wild() {
		tooLong = append(tooLong, with(4097, 0, x), with(4097, 4096, x))
	}
	for _, l := range tooLong {
		for name, got := range map[string]said{
			"Exact": told(sum.Exact(l)), "Sum": told(sum.Sum(l, api.WayExact)), "DotExact": told(sum.DotExact(l, l)), "DotExact with 1": told(sum.DotExact(l, repeat(len(l), 1))), "DotExact of 1": told(sum.DotExact(repeat(len(l), 1), l)), "Mean": told(sum.Mean(l)), "Norm": told(sum.Norm(l)),
		} {
			if !got.refused(api.ErrLong) {
				t.Errorf("%s of %d numbers: %x", name, len(l), got)
			}
		}
		for _, way := range everyWay {
			if !offRefused(l, way, api.ErrLong) {
				t.Errorf("Off of %d numbers by %d isn't refused", len(l), way)
			}
		}
		for _, way := range everyWay[:4] {
			if _, err := sum.Sum(l, way); err != api.OK {
				t.Errorf("Sum of %d numbers by %d: %d", len(l), way, err)
			}
		}
		if _, err := sum.Dot(l, l); err != api.OK {
			t.Errorf("Dot of %d numbers: %d", len(l), err)
		}
	}
	for _, way := range everyWay {
		if d, err := sum.Off(most1, way); err != api.OK || len(d.Mag) != 0 {
			t.Errorf("Off of 4096 numbers by %d: %v, %d", way, d, err)
		}
	}
}

// P5.6: a way that is none is refused ahead of all else.
func TestNoWay(t *testing.T) {
	for _, way := range noWays() {
		for _, l := range [][]float64{nil, {}, {1}, {minus}, {inf}, {theNaN}, {most, most}, make([]float64, 4097), repeat(4097, inf)} {
			if got := told(sum.Sum(l, way)); !got.refused(api.ErrSumWay) {
				t.Errorf("Sum of %d numbers by %d: %x", len(l), way, got)
			}
			if !offRefused(l, way, api.ErrSumWay) {
				t.Errorf("Off of %d numbers by %d isn't refused", len(l), way)
			}
		}
	}
}

// P5.6, P5.8, P5.9: what must be finite, ahead of ErrOver.
func TestNotFinite(t *testing.T) {
	for _, x := range wild() {
		for _, l := range [][]float64{{x}, {1, x}, {x, 2, 3}, {x, -x}, {most, most, x}, {x, most, most}, with(4096, 0, x), with(4096, 4095, x)} {
			for _, way := range everyWay {
				if !offRefused(l, way, api.ErrNumber) {
					t.Errorf("Off of %x by %d isn't refused", brief(l), way)
				}
			}
			if got := told(sum.Mean(l)); !got.refused(api.ErrNumber) {
				t.Errorf("Mean of %x: %x", brief(l), got)
			}
			if got := told(sum.Norm(l)); !got.refused(api.ErrNumber) {
				t.Errorf("Norm of %x: %x", brief(l), got)
			}
		}
	}
}

// P5.6: ErrOver hangs on the way.
func TestOffOfSumsThatAreNotFinite(t *testing.T) {
	for _, c := range []struct {
		l    []float64
		over [5]bool
	}{
		{[]float64{most, most}, [5]bool{true, true, true, true, true}},
		{[]float64{-most, -0x1p970}, [5]bool{true, true, true, true, true}},
		{[]float64{most, most, -most}, [5]bool{true, true, true, true, false}},
		{[]float64{most, most, -most, -most}, [5]bool{true, true, true, true, false}},
		{[]float64{most, -most, most, -most}, [5]bool{}},
		{[]float64{0, most, most, -most, -most}, [5]bool{true, false, true, true, false}},
		{[]float64{0, 0, 0, most, most, -most, 0, 0}, [5]bool{true, false, true, true, false}},
		{[]float64{most, 0x1p970, -least}, [5]bool{true, true, true, true, false}},
	} {
		for i, over := range c.over {
			way := everyWay[i]
			if over && !offRefused(c.l, way, api.ErrOver) {
				t.Errorf("Off of %x by %d isn't refused", c.l, way)
			}
			if _, err := sum.Off(c.l, way); !over && err != api.OK {
				t.Errorf("Off of %x by %d: %d", c.l, way, err)
			}
		}
	}
}

// P5.7: lists of unlike counts, ahead of all else.
func TestUnlikeCounts(t *testing.T) {
	for _, c := range [][2][]float64{{{0.1}, {}}, {{0.1}, nil}, {nil, {1}}, {{1, 2}, {1}}, {{1}, {1, 2}}, {{theNaN}, nil}, {{inf, 1}, {0}}, {make([]float64, 4097), {1}}, {{1}, make([]float64, 4097)}, {make([]float64, 4097), make([]float64, 4098)}, {make([]float64, 4096), make([]float64, 4097)}, {repeat(4097, theNaN), nil}} {
		for i, got := range []said{told(sum.Dot(c[0], c[1])), told(sum.DotExact(c[0], c[1]))} {
			if !got.refused(api.ErrShape) {
				t.Errorf("call %d of %d and %d numbers: %x", i, len(c[0]), len(c[1]), got)
			}
		}
	}
}

// P5.8: the mean of nothing.
func TestMeanOfNothing(t *testing.T) {
	for _, l := range [][]float64{nil, {}, make([]float64, 0, 8), []float64{1, 2}[:0]} {
		if got := told(sum.Mean(l)); !got.refused(api.ErrNothing) {
			t.Errorf("Mean of nothing: %x", got)
		}
	}
}
