package interval_test

import (
	"math/rand"
	"slices"
	"testing"

	"binnacle/api"
	"binnacle/interval"
)

// dotOf goes step by step, by what the oracle says of sums and products.
func dotOf(a, b []api.Interval) api.Interval {
	s := point(0)
	for i := range a {
		s = closure(sums(s, closure(products(a[i], b[i]))))
	}
	return s
}

// lists are lists of intervals, two by two, of like counts.
func lists() [][2][]api.Interval {
	out := [][2][]api.Interval{{nil, nil}, {{}, {}}, {nil, {}}, {{iv(1, 2), point(3)}, {point(1), iv(-1, 1)}}}
	r := rand.New(rand.NewSource(21))
	for n := range 14 {
		for range 40 {
			a, b := make([]api.Interval, n), make([]api.Interval, n)
			for i := range n {
				a[i], b[i] = chance(r), chance(r)
				if r.Intn(2) == 0 {
					a[i], b[i] = point(float64(r.Intn(9)-4)/8), iv(-r.Float64(), r.Float64())
				}
			}
			out = append(out, [2][]api.Interval{a, b})
		}
	}
	for _, strange := range append(none(), empty, all, point(minus)) {
		out = append(out, [2][]api.Interval{{strange, point(1)}, {point(2), point(0.1)}}, [2][]api.Interval{{point(1), point(0.1)}, {point(2), strange}})
	}
	return out
}

// P6.4
func TestDot(t *testing.T) {
	for _, l := range lists() {
		if got, want := told(interval.Dot(l[0], l[1])), (made{dotOf(l[0], l[1]), api.OK}); !got.is(want) {
			t.Errorf("Dot(%x, %x): %x, not %x", l[0], l[1], got, want)
		}
	}
}

// P6.4, case by case.
func TestDotCases(t *testing.T) {
	one := func(n int) []api.Interval { return slices.Repeat([]api.Interval{point(1)}, n) }
	for i, c := range []struct {
		a, b []api.Interval
		want api.Interval
	}{
		{nil, nil, point(0)}, {nil, []api.Interval{}, point(0)}, {[]api.Interval{iv(1, 2), point(3)}, []api.Interval{point(1), iv(-1, 1)}, iv(-2, 5)},
		{[]api.Interval{point(minus)}, one(1), point(0)}, {[]api.Interval{all}, []api.Interval{point(0)}, point(0)}, {[]api.Interval{empty}, []api.Interval{point(0)}, empty}, {[]api.Interval{point(1), iv(2, 1), point(1)}, one(3), empty}, {[]api.Interval{all, all}, one(2), all},
		// The order of what is added is seen.
		{[]api.Interval{point(1), point(0x1p100), point(1), point(-0x1p100)}, one(4), iv(0, 0x1p49)}, {[]api.Interval{point(0x1p100), point(-0x1p100), point(1), point(1)}, one(4), point(2)}, {[]api.Interval{point(most), point(most), point(-most)}, one(3), iv(0, inf)}, {[]api.Interval{point(most), point(-most), point(most)}, one(3), point(most)},
		// Each product is rounded outward by itself, ahead of being added.
		{[]api.Interval{point(next(1)), point(-1)}, []api.Interval{point(next(1)), point(1)}, iv(0x1p-51, 0x3p-52)},
		{slices.Repeat([]api.Interval{point(0.5)}, 5000), one(5000), point(2500)},
	} {
		for _, got := range []made{told(interval.Dot(c.a, c.b)), told(interval.Dot(c.b, c.a))} {
			if !got.is(made{c.want, api.OK}) {
				t.Errorf("case %d: %x, not %x", i, got, c.want)
			}
		}
	}
}

// P6.4: lists of unlike counts.
func TestDotRefuses(t *testing.T) {
	for _, c := range [][2][]api.Interval{{{all}, nil}, {nil, {all}}, {{}, {point(1)}}, {{point(1), point(2)}, {point(1)}}, {{empty}, {iv(2, 1), empty}}, {{iv(theNaN, 1)}, {}}, {make([]api.Interval, 100), make([]api.Interval, 99)}} {
		if got := told(interval.Dot(c[0], c[1])); !got.refused(api.ErrShape) {
			t.Errorf("Dot of %d and %d intervals: %x", len(c[0]), len(c[1]), got)
		}
	}
}
