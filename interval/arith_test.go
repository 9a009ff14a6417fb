package interval_test

import (
	"testing"

	"binnacle/api"
	"binnacle/interval"
)

// asked is a call's answer and what it must be.
type asked struct{ got, want api.Interval }

func hold(t *testing.T, cases []asked) {
	t.Helper()
	for i, c := range cases {
		if !same(c.got, c.want) {
			t.Errorf("case %d: %x, not %x", i, c.got, c.want)
		}
	}
}

// P6.3: Neg and Abs are the closures.
func TestNegAndAbs(t *testing.T) {
	for _, a := range append(intervals(), none()...) {
		if got, want := interval.Neg(a), closure(allOf(a, real.neg)); !same(got, want) {
			t.Errorf("Neg(%x): %x, not %x", a, got, want)
		}
		if got, want := interval.Abs(a), closure(allOf(a, real.abs)); !same(got, want) {
			t.Errorf("Abs(%x): %x, not %x", a, got, want)
		}
	}
	hold(t, []asked{
		{interval.Neg(iv(0, 1)), iv(-1, 0)}, {interval.Neg(iv(minus, 1)), iv(-1, 0)}, {interval.Neg(point(0)), point(0)}, {interval.Neg(empty), empty}, {interval.Neg(all), all}, {interval.Neg(iv(-most, inf)), iv(-inf, most)}, {interval.Neg(iv(2, 1)), empty},
		{interval.Abs(iv(-3, 2)), iv(0, 3)}, {interval.Abs(iv(-2, 3)), iv(0, 3)}, {interval.Abs(iv(-3, -2)), iv(2, 3)}, {interval.Abs(iv(2, 3)), iv(2, 3)}, {interval.Abs(iv(-3, minus)), iv(0, 3)}, {interval.Abs(iv(minus, 3)), iv(0, 3)}, {interval.Abs(empty), empty}, {interval.Abs(all), iv(0, inf)}, {interval.Abs(iv(-inf, -1)), iv(1, inf)}, {interval.Abs(iv(-inf, 1)), iv(0, inf)}, {interval.Abs(iv(theNaN, -1)), empty}, {interval.Abs(iv(-1, -2)), empty},
	})
}

// P6.3: Add, Sub, Mul and Div are the closures.
func TestClosures(t *testing.T) {
	wrong := 0
	for _, p := range pairs() {
		a, b := p[0], p[1]
		for _, c := range []struct {
			name string
			call func(a, b api.Interval) api.Interval
			all  func(a, b api.Interval) []real
		}{{"Add", interval.Add, sums}, {"Sub", interval.Sub, differences}, {"Mul", interval.Mul, products}, {"Div", interval.Div, quotients}} {
			if got, want := c.call(a, b), closure(c.all(a, b)); !same(got, want) {
				t.Errorf("%s(%x, %x): %x, not %x", c.name, a, b, got, want)
				few(t, &wrong)
			}
		}
	}
}

// P6.3: Add and Sub, case by case.
func TestAddCases(t *testing.T) {
	tiny := point(0x1p-60)
	hold(t, []asked{
		{interval.Add(iv(1, 2), tiny), iv(1, next(2))}, {interval.Add(point(-1), tiny), iv(-1, next(-1))}, {interval.Add(point(1), point(-0x1p-60)), iv(prev(1), 1)}, {interval.Add(point(1), point(least)), iv(1, next(1))}, {interval.Add(point(-least), point(1)), iv(prev(1), 1)},
		{interval.Add(point(1), point(0x1p-53)), iv(1, next(1))}, {interval.Add(point(next(1)), point(0x1p-53)), iv(next(1), next(next(1)))}, {interval.Add(point(0.1), point(0.2)), iv(prev(0.30000000000000004), 0.30000000000000004)},
		// What is exact is not widened.
		{interval.Add(point(1), point(0x1p-52)), point(next(1))}, {interval.Add(point(least), point(least)), point(0x2p-1074)}, {interval.Add(point(0x1p-1022), point(-least)), point(0x1p-1022 - least)}, {interval.Add(point(1), point(-1)), point(0)}, {interval.Add(point(most), point(-most)), point(0)}, {interval.Add(iv(1, 2), iv(3, 4)), iv(4, 6)}, {interval.Add(point(0x1p1022), point(0x1p1022)), point(0x1p1023)},
		{interval.Add(point(minus), point(minus)), point(0)}, {interval.Add(iv(0, minus), iv(minus, 1)), iv(0, 1)},
		// Beyond the greatest number.
		{interval.Add(point(most), point(most)), iv(most, inf)}, {interval.Add(point(-most), point(-most)), iv(-inf, -most)}, {interval.Add(point(most), point(least)), iv(most, inf)}, {interval.Add(point(most), point(0x1p969)), iv(most, inf)}, {interval.Add(point(most), point(0x1p970)), iv(most, inf)}, {interval.Add(point(0x1p970), point(-most)), iv(-most, next(-most))}, {interval.Add(point(-0x1p970), point(-most)), iv(-inf, -most)}, {interval.Add(point(most), point(-least)), iv(prev(most), most)},
		{interval.Add(iv(most, inf), iv(most, inf)), iv(most, inf)}, {interval.Add(iv(-inf, -most), iv(-inf, -most)), iv(-inf, -most)}, {interval.Add(iv(-most, most), iv(-most, most)), all},
		// Infinite ends.
		{interval.Add(iv(-inf, 1), iv(1, inf)), all}, {interval.Add(iv(-inf, minus), iv(-inf, minus)), iv(-inf, 0)}, {interval.Add(iv(1, inf), iv(-3, 0.5)), iv(-2, inf)}, {interval.Add(all, point(1)), all}, {interval.Add(iv(-inf, most), point(1)), all}, {interval.Add(iv(-inf, most), point(-most)), iv(-inf, 0)},
		// Empty ones, and what counts as such.
		{interval.Add(empty, all), empty}, {interval.Add(all, empty), empty}, {interval.Add(empty, empty), empty}, {interval.Add(iv(2, 1), point(1)), empty}, {interval.Add(point(1), iv(theNaN, 2)), empty}, {interval.Add(point(inf), point(1)), empty}, {interval.Add(iv(-inf, inf), point(-inf)), empty},
		{interval.Sub(iv(1, 2), iv(1, 2)), iv(-1, 1)}, {interval.Sub(point(1), tiny), iv(prev(1), 1)}, {interval.Sub(iv(0, 1), iv(0, inf)), iv(-inf, 1)}, {interval.Sub(all, all), all}, {interval.Sub(point(0), point(0)), point(0)}, {interval.Sub(point(-most), point(most)), iv(-inf, -most)}, {interval.Sub(iv(1, inf), iv(-inf, 3)), iv(-2, inf)}, {interval.Sub(empty, point(1)), empty}, {interval.Sub(point(1), empty), empty}, {interval.Sub(point(1), iv(5, 4)), empty},
	})
}

// P6.3: Mul, case by case.
func TestMulCases(t *testing.T) {
	hold(t, []asked{
		{interval.Mul(iv(-1, 2), iv(-3, 4)), iv(-6, 8)}, {interval.Mul(iv(2, 3), iv(4, 5)), iv(8, 15)}, {interval.Mul(iv(-3, -2), iv(4, 5)), iv(-15, -8)}, {interval.Mul(iv(-3, -2), iv(-5, -4)), iv(8, 15)}, {interval.Mul(iv(-3, 2), iv(4, 5)), iv(-15, 10)}, {interval.Mul(iv(2, 3), iv(-5, 4)), iv(-15, 12)}, {interval.Mul(iv(-3, 2), iv(-5, -4)), iv(-10, 15)},
		// 0 times an infinite end.
		{interval.Mul(point(0), all), point(0)}, {interval.Mul(all, point(minus)), point(0)}, {interval.Mul(point(minus), iv(-inf, 5)), point(0)}, {interval.Mul(iv(0, 1), iv(1, inf)), iv(0, inf)}, {interval.Mul(iv(-inf, 0), iv(-inf, 0)), iv(0, inf)}, {interval.Mul(iv(-1, 0), iv(0, inf)), iv(-inf, 0)}, {interval.Mul(iv(0, 1), all), all}, {interval.Mul(iv(1, inf), iv(2, inf)), iv(2, inf)}, {interval.Mul(iv(-inf, -1), iv(2, inf)), iv(-inf, -2)}, {interval.Mul(all, all), all}, {interval.Mul(all, point(least)), all}, {interval.Mul(iv(most, inf), iv(2, inf)), iv(most, inf)}, {interval.Mul(iv(least, inf), iv(least, inf)), iv(0, inf)},
		// Below what numbers can hold.
		{interval.Mul(point(least), point(least)), iv(0, least)}, {interval.Mul(point(-least), point(least)), iv(-least, 0)}, {interval.Mul(point(-least), point(-least)), iv(0, least)}, {interval.Mul(point(least), point(0.5)), iv(0, least)}, {interval.Mul(point(0x3p-1074), point(0.5)), iv(least, 0x2p-1074)}, {interval.Mul(point(0x3p-1074), point(-0.5)), iv(-0x2p-1074, -least)}, {interval.Mul(point(0x1p-1022), point(next(1))), point(0x1p-1022 + least)}, {interval.Mul(point(0x1p-1022), point(prev(1))), iv(0x1p-1022-least, 0x1p-1022)}, {interval.Mul(point(0x1p-600), point(0x1p-600)), iv(0, least)}, {interval.Mul(point(0x1p-537), point(0x1p-537)), point(least)}, {interval.Mul(point(0x1p-537), point(next(0x1p-537))), iv(least, 0x2p-1074)}, {interval.Mul(point(0x1p-538), point(0x1p-537)), iv(0, least)},
		// Beyond the greatest number.
		{interval.Mul(point(most), point(2)), iv(most, inf)}, {interval.Mul(point(-most), point(2)), iv(-inf, -most)}, {interval.Mul(point(most), point(next(1))), iv(most, inf)}, {interval.Mul(point(most), point(most)), iv(most, inf)}, {interval.Mul(point(0x1p512), point(0x1p512)), iv(most, inf)}, {interval.Mul(point(most), point(prev(1))), iv(prev(most), most)}, {interval.Mul(point(0x1p512), point(0x1p511)), point(0x1p1023)},
		// What is exact is not widened; what isn't is, though the last digits alone tell it.
		{interval.Mul(point(3), point(5)), point(15)}, {interval.Mul(point(-0.5), point(0x1p-1073)), point(-least)}, {interval.Mul(point(next(1)), point(next(1))), iv(1+0x1p-51, next(1+0x1p-51))}, {interval.Mul(point(0x1p52+1), point(0x1p20+1)), iv(0x1p72+0x1p52+0x1p20, next(0x1p72+0x1p52+0x1p20))}, {interval.Mul(point(-0x1p52-1), point(0x1p20+1)), iv(prev(-0x1p72-0x1p52-0x1p20), -0x1p72-0x1p52-0x1p20)}, {interval.Mul(point(0.1), point(0.1)), iv(prev(0.010000000000000002), 0.010000000000000002)},
		{interval.Mul(empty, all), empty}, {interval.Mul(point(0), empty), empty}, {interval.Mul(empty, point(0)), empty}, {interval.Mul(iv(1, 0), point(1)), empty}, {interval.Mul(point(0), iv(theNaN, 1)), empty}, {interval.Mul(point(inf), point(0)), empty},
	})
}

// P6.3: Div, case by case.
func TestDivCases(t *testing.T) {
	third := 1.0 / 3
	hold(t, []asked{
		// By what has 0 at an end, inside, or is 0 alone.
		{interval.Div(iv(1, 2), iv(0, 1)), iv(1, inf)}, {interval.Div(iv(1, 2), iv(-1, 0)), iv(-inf, -1)}, {interval.Div(iv(1, 2), iv(-1, minus)), iv(-inf, -1)}, {interval.Div(iv(1, 2), iv(minus, 1)), iv(1, inf)}, {interval.Div(iv(-2, -1), iv(0, 1)), iv(-inf, -1)}, {interval.Div(iv(-2, -1), iv(-1, 0)), iv(1, inf)}, {interval.Div(iv(-1, 1), iv(0, 1)), all}, {interval.Div(iv(-1, 1), iv(-1, minus)), all}, {interval.Div(iv(0, 1), iv(0, 1)), iv(0, inf)}, {interval.Div(iv(-1, 0), iv(0, 1)), iv(-inf, 0)}, {interval.Div(iv(0, 1), iv(-1, 0)), iv(-inf, 0)},
		{interval.Div(iv(1, 2), iv(-1, 1)), all}, {interval.Div(iv(0, 1), iv(-1, 1)), all}, {interval.Div(point(least), iv(-least, least)), all}, {interval.Div(iv(1, 2), all), all}, {interval.Div(all, all), all}, {interval.Div(iv(-1, 0), iv(-1, inf)), all},
		{interval.Div(iv(0, 1), point(0)), empty}, {interval.Div(point(0), point(0)), empty}, {interval.Div(all, point(minus)), empty}, {interval.Div(point(1), iv(minus, 0)), empty}, {interval.Div(point(1), iv(0, minus)), empty},
		// 0 by something.
		{interval.Div(point(0), iv(-1, 1)), point(0)}, {interval.Div(point(minus), iv(-1, 1)), point(0)}, {interval.Div(point(0), iv(0, 1)), point(0)}, {interval.Div(point(0), iv(-1, 0)), point(0)}, {interval.Div(point(0), all), point(0)}, {interval.Div(point(0), iv(-inf, 0)), point(0)}, {interval.Div(point(0), point(-3)), point(0)}, {interval.Div(point(0), iv(0, inf)), point(0)},
		// Infinite ends.
		{interval.Div(point(1), iv(2, inf)), iv(0, 0.5)}, {interval.Div(point(1), iv(-inf, -2)), iv(-0.5, 0)}, {interval.Div(iv(1, inf), iv(1, inf)), iv(0, inf)}, {interval.Div(iv(-inf, -1), iv(1, inf)), iv(-inf, 0)}, {interval.Div(iv(1, 2), iv(0, inf)), iv(0, inf)}, {interval.Div(iv(-2, -1), iv(-inf, 0)), iv(0, inf)}, {interval.Div(all, point(1)), all}, {interval.Div(all, iv(1, inf)), all}, {interval.Div(iv(1, inf), point(-2)), iv(-inf, -0.5)}, {interval.Div(iv(most, inf), iv(most, inf)), iv(0, inf)}, {interval.Div(iv(-1, inf), iv(2, 4)), iv(-0.5, inf)}, {interval.Div(iv(-inf, 1), iv(-4, -2)), iv(-0.5, inf)},
		// Beyond the greatest number and below what numbers can hold.
		{interval.Div(point(most), point(0.5)), iv(most, inf)}, {interval.Div(point(-most), point(0.5)), iv(-inf, -most)}, {interval.Div(point(1), point(least)), iv(most, inf)}, {interval.Div(point(1), point(-least)), iv(-inf, -most)}, {interval.Div(point(most), point(prev(1))), iv(most, inf)}, {interval.Div(point(least), point(2)), iv(0, least)}, {interval.Div(point(-least), point(2)), iv(-least, 0)}, {interval.Div(point(least), point(most)), iv(0, least)}, {interval.Div(point(least), point(-most)), iv(-least, 0)}, {interval.Div(point(0x3p-1074), point(2)), iv(least, 0x2p-1074)}, {interval.Div(point(1), point(most)), iv(0x1p-1024, 0x1p-1024+least)}, {interval.Div(point(0x1p-1022), point(next(1))), iv(0x1p-1022-least, 0x1p-1022)},
		// Exact ones, and others.
		{interval.Div(point(6), point(3)), point(2)}, {interval.Div(point(-6), point(3)), point(-2)}, {interval.Div(point(least), point(least)), point(1)}, {interval.Div(point(most), point(-most)), point(-1)}, {interval.Div(iv(1, 2), iv(4, 8)), iv(0.125, 0.5)}, {interval.Div(point(0x2p-1074), point(2)), point(least)},
		{interval.Div(point(1), point(3)), iv(third, next(third))}, {interval.Div(point(-1), point(3)), iv(-next(third), -third)}, {interval.Div(point(1), point(-3)), iv(-next(third), -third)}, {interval.Div(iv(-1, 1), point(3)), iv(-next(third), next(third))}, {interval.Div(iv(-2, 3), iv(2, 4)), iv(-1, 1.5)}, {interval.Div(iv(-2, 3), iv(-4, -2)), iv(-1.5, 1)},
		{interval.Div(empty, point(1)), empty}, {interval.Div(point(1), empty), empty}, {interval.Div(empty, point(0)), empty}, {interval.Div(point(0), empty), empty}, {interval.Div(iv(2, 1), point(1)), empty}, {interval.Div(point(1), iv(2, 1)), empty}, {interval.Div(point(0), iv(theNaN, 1)), empty}, {interval.Div(point(1), point(inf)), empty}, {interval.Div(empty, iv(-1, 1)), empty},
	})
}

// P6.3: Sqrt.
func TestSqrt(t *testing.T) {
	for _, a := range append(intervals(), none()...) {
		if got, want := interval.Sqrt(a), roots(a); !same(got, want) {
			t.Errorf("Sqrt(%x): %x, not %x", a, got, want)
		}
	}
	hold(t, []asked{
		{interval.Sqrt(iv(-4, 4)), iv(0, 2)}, {interval.Sqrt(iv(-2, -1)), empty}, {interval.Sqrt(iv(4, 9)), iv(2, 3)}, {interval.Sqrt(point(0)), point(0)}, {interval.Sqrt(point(minus)), point(0)}, {interval.Sqrt(iv(-4, minus)), point(0)}, {interval.Sqrt(point(-least)), empty}, {interval.Sqrt(iv(-least, least)), iv(0, 0x1p-537)},
		{interval.Sqrt(point(least)), point(0x1p-537)}, {interval.Sqrt(point(2)), iv(prev(1.4142135623730951), 1.4142135623730951)}, {interval.Sqrt(point(most)), iv(prev(0x1p512), 0x1p512)}, {interval.Sqrt(all), iv(0, inf)}, {interval.Sqrt(iv(4, inf)), iv(2, inf)}, {interval.Sqrt(iv(-inf, -1)), empty}, {interval.Sqrt(iv(-inf, 9)), iv(0, 3)}, {interval.Sqrt(iv(most, inf)), iv(prev(0x1p512), inf)},
		{interval.Sqrt(point(next(1))), iv(1, next(1))}, {interval.Sqrt(point(prev(1))), iv(prev(1), 1)}, {interval.Sqrt(empty), empty}, {interval.Sqrt(iv(4, 1)), empty}, {interval.Sqrt(iv(theNaN, 4)), empty}, {interval.Sqrt(iv(4, theNaN)), empty}, {interval.Sqrt(point(inf)), empty},
	})
}

// The chapter's examples, as they stand.
func TestExamples(t *testing.T) {
	pow := func(a api.Interval, n int) api.Interval {
		p, err := interval.Pow(a, n)
		if err != api.OK {
			t.Errorf("Pow(%x, %d): %d", a, n, err)
		}
		return p
	}
	hold(t, []asked{
		{interval.Add(iv(1, 2), point(0x1p-60)), iv(1, next(2))}, {interval.Sub(iv(1, 2), iv(1, 2)), iv(-1, 1)}, {interval.Mul(point(0), interval.All()), point(0)}, {interval.Mul(iv(-1, 2), iv(-3, 4)), iv(-6, 8)},
		{interval.Div(iv(1, 2), iv(0, 1)), iv(1, inf)}, {interval.Div(iv(1, 2), iv(-1, 1)), interval.All()}, {interval.Div(iv(0, 1), point(0)), interval.Empty()}, {interval.Div(point(1), point(3)), iv(1.0/3, next(1.0/3))},
		{interval.Sqrt(iv(-4, 4)), iv(0, 2)}, {interval.Sqrt(iv(-2, -1)), interval.Empty()}, {pow(iv(-2, 1), 2), iv(0, 4)}, {pow(iv(-2, 1), 3), iv(-8, 1)}, {pow(interval.All(), 0), point(1)},
		{interval.Add(iv(most, inf), iv(most, inf)), iv(most, inf)},
	})
	if interval.Mid(iv(1, 2)) != 1.5 || interval.Mid(iv(0, inf)) != most || interval.Width(iv(0, least)) != least || !told(interval.New(2, 1)).refused(api.ErrEnds) || !interval.In(interval.Empty(), point(1)) {
		t.Error("the fourth example")
	}
	// The first one of the whole document: in this order it lies from 0 to 2^49.
	got, err := interval.Dot([]api.Interval{point(1), point(0x1p100), point(1), point(-0x1p100)}, []api.Interval{point(1), point(1), point(1), point(1)})
	if !same(got, iv(0, 0x1p49)) || err != api.OK {
		t.Errorf("four numbers: %x, %d", got, err)
	}
}
