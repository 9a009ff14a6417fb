package interval_test

import (
	"testing"

	"binnacle/api"
	"binnacle/interval"
)

// P6.5
func TestMiddle(t *testing.T) {
	wrong := 0
	for _, a := range append(intervals(), none()...) {
		mid, radius, width := theNaN, theNaN, theNaN
		if holds(a) {
			mid = middle(a)
			radius, width = reach(a, mid), span(a)
		}
		if got := interval.Mid(a); !sameNumber(got, mid) {
			t.Errorf("Mid(%x): %x, not %x", a, got, mid)
			few(t, &wrong)
		}
		if got := interval.Radius(a); !sameNumber(got, radius) {
			t.Errorf("Radius(%x): %x, not %x", a, got, radius)
			few(t, &wrong)
		}
		if got := interval.Width(a); !sameNumber(got, width) {
			t.Errorf("Width(%x): %x, not %x", a, got, width)
			few(t, &wrong)
		}
	}
}

// P6.5, case by case.
func TestMiddleCases(t *testing.T) {
	for _, c := range []struct {
		a                  api.Interval
		mid, radius, width float64
	}{
		{iv(1, 2), 1.5, 0.5, 1}, {iv(1, 4), 2.5, 1.5, 3}, {iv(-1, 1), 0, 1, 2}, {point(0.1), 0.1, 0, 0}, {point(0), 0, 0, 0}, {point(minus), 0, 0, 0}, {iv(0, minus), 0, 0, 0}, {iv(minus, 0), 0, 0, 0}, {iv(-4, -1), -2.5, 1.5, 3},
		{empty, theNaN, theNaN, theNaN}, {iv(2, 1), theNaN, theNaN, theNaN}, {iv(theNaN, 1), theNaN, theNaN, theNaN}, {point(inf), theNaN, theNaN, theNaN}, {point(-inf), theNaN, theNaN, theNaN},
		// Infinite ends.
		{all, 0, inf, inf}, {iv(0, inf), most, inf, inf}, {iv(-inf, 0), -most, inf, inf}, {iv(most, inf), most, inf, inf}, {iv(-inf, -most), -most, inf, inf}, {iv(-inf, most), -most, inf, inf}, {iv(-most, inf), most, inf, inf},
		// The sum overflows.
		{point(most), most, 0, 0}, {point(-most), -most, 0, 0}, {iv(prev(most), most), prev(most), 0x1p971, 0x1p971}, {iv(prev(prev(most)), most), prev(most), 0x1p971, 0x1p972}, {iv(0x1p1023, 0x1.8p1023), 0x1.4p1023, 0x1p1021, 0x1p1022}, {iv(0x1p970, most), 0x1p1023, prev(0x1p1023), most}, {iv(-most, -0x1p970), -0x1p1023, prev(0x1p1023), most},
		{iv(-most, most), 0, most, inf}, {iv(-most, 0x1p970), -0x1.ffffffffffffep1022, 0x1p1023, inf}, {iv(0, most), most / 2, most / 2, most},
		// Half way between two numbers.
		{iv(1, next(1)), 1, 0x1p-52, 0x1p-52}, {iv(next(1), next(next(1))), next(next(1)), 0x1p-52, 0x1p-52}, {iv(0, least), 0, least, least}, {iv(-least, 0), 0, least, least}, {iv(least, 0x2p-1074), 0x2p-1074, least, least}, {iv(0x2p-1074, 0x3p-1074), 0x2p-1074, least, least}, {iv(0x3p-1074, 0x4p-1074), 0x4p-1074, least, least}, {iv(-0x2p-1074, -least), -0x2p-1074, least, least}, {iv(0, 0x3p-1074), 0x2p-1074, 0x2p-1074, 0x3p-1074}, {iv(-least, 0x2p-1074), 0, 0x2p-1074, 0x3p-1074}, {iv(-0x2p-1074, least), 0, 0x2p-1074, 0x3p-1074}, {iv(-least, least), 0, least, 0x2p-1074},
		{iv(0x1p-1022, 0x1p-1022+least), 0x1p-1022, least, least},
		// A radius and a width that are rounded up.
		{iv(-0x1p-60, 1), 0.5, next(0.5), next(1)}, {iv(-1, 0x1p-60), -0.5, next(0.5), next(1)}, {iv(-least, 1), 0.5, next(0.5), next(1)}, {iv(-1, least), -0.5, next(0.5), next(1)}, {iv(-0.1, 0.7), 0.3, 0.4, next(0.7999999999999999)}, {iv(least, 1), 0.5, 0.5, 1}, {iv(0x1p-60, 1), 0.5, 0.5, 1},
	} {
		if got := interval.Mid(c.a); !sameNumber(got, c.mid) {
			t.Errorf("Mid(%x): %x, not %x", c.a, got, c.mid)
		}
		if got := interval.Radius(c.a); !sameNumber(got, c.radius) {
			t.Errorf("Radius(%x): %x, not %x", c.a, got, c.radius)
		}
		if got := interval.Width(c.a); !sameNumber(got, c.width) {
			t.Errorf("Width(%x): %x, not %x", c.a, got, c.width)
		}
	}
}
