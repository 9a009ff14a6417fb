package interval_test

import (
	"testing"

	"binnacle/api"
	"binnacle/interval"
)

// everyNumber are the ends that matter, and NaNs.
func everyNumber() []float64 {
	out := append(ends(), theNaN)
	for _, a := range none() {
		out = append(out, a.Lo)
	}
	return out
}

// P6.2: Has.
func TestHas(t *testing.T) {
	wrong := 0
	for _, a := range append(intervals(), none()...) {
		for _, x := range append(everyNumber(), a.Lo, a.Hi, next(a.Lo), prev(a.Lo), next(a.Hi), prev(a.Hi)) {
			want := holds(a) && a.Lo <= x && x <= a.Hi && x != inf && x != -inf
			if interval.Has(a, x) != want {
				t.Errorf("Has(%x, %x) is %v", a, x, !want)
				few(t, &wrong)
			}
		}
	}
	if interval.Has(all, inf) || interval.Has(all, -inf) || interval.Has(all, theNaN) || interval.Has(empty, inf) || interval.Has(point(inf), inf) || !interval.Has(all, most) || !interval.Has(iv(0, 1), minus) || !interval.Has(iv(-1, minus), 0) {
		t.Error("Has at the ends")
	}
}

// parted are some real numbers that tell intervals of the named ends apart: the ends, what lies between each two, and what lies beyond all.
func parted(a, b api.Interval) []real {
	var out []real
	for _, x := range append(outermost(a), outermost(b)...) {
		out = append(out, x, x.add(small), x.sub(small))
	}
	return append(out, far.add(far), far.add(far).neg())
}

// P6.2: In, Meets, Below, by which real numbers are held.
func TestInMeetsBelow(t *testing.T) {
	wrong := 0
	for _, p := range pairs() {
		a, b := p[0], p[1]
		in, meets := true, false
		for _, x := range parted(a, b) {
			inA, inB := holdsReal(a, x), holdsReal(b, x)
			in = in && (!inA || inB)
			meets = meets || inA && inB
		}
		below := true
		for _, x := range outermost(a) {
			for _, y := range outermost(b) {
				below = below && x.cmp(y) < 0
			}
		}
		if interval.In(a, b) != in || interval.Meets(a, b) != meets || interval.Below(a, b) != below {
			t.Errorf("%x, %x: In %v, Meets %v, Below %v", a, b, interval.In(a, b), interval.Meets(a, b), interval.Below(a, b))
			few(t, &wrong)
		}
	}
}

// P6.2, case by case.
func TestOfSetsCases(t *testing.T) {
	for i, c := range []struct{ got, want bool }{
		{interval.In(empty, point(1)), true}, {interval.In(empty, empty), true}, {interval.In(point(1), empty), false}, {interval.In(all, empty), false}, {interval.In(empty, iv(-inf, 0)), true},
		{interval.In(iv(1, 2), iv(1, 2)), true}, {interval.In(iv(1, 2), iv(1, 3)), true}, {interval.In(iv(1, 2), iv(0, 2)), true}, {interval.In(iv(1, 3), iv(1, 2)), false}, {interval.In(iv(0, 2), iv(1, 2)), false},
		{interval.In(all, iv(-most, most)), false}, {interval.In(iv(-most, most), all), true}, {interval.In(iv(1, inf), iv(1, most)), false}, {interval.In(iv(0, 1), iv(minus, 1)), true}, {interval.In(iv(minus, 1), iv(0, 1)), true},
		{interval.In(iv(theNaN, 1), empty), true}, {interval.In(iv(2, 1), iv(5, 6)), true}, {interval.In(iv(5, 6), iv(inf, inf)), false},
		{interval.Meets(iv(1, 2), iv(2, 3)), true}, {interval.Meets(iv(2, 3), iv(1, 2)), true}, {interval.Meets(iv(1, 2), iv(next(2), 3)), false}, {interval.Meets(all, all), true}, {interval.Meets(all, empty), false}, {interval.Meets(empty, empty), false},
		{interval.Meets(iv(most, inf), iv(-inf, most)), true}, {interval.Meets(iv(most, inf), iv(-inf, prev(most))), false}, {interval.Meets(iv(0, 1), iv(-1, minus)), true}, {interval.Meets(iv(3, 1), iv(1, 3)), false},
		{interval.Below(iv(1, 2), iv(3, 4)), true}, {interval.Below(iv(1, 2), iv(2, 4)), false}, {interval.Below(iv(1, 2), iv(next(2), 4)), true}, {interval.Below(iv(3, 4), iv(1, 2)), false}, {interval.Below(iv(-1, minus), iv(0, 1)), false},
		{interval.Below(empty, point(0)), true}, {interval.Below(point(0), empty), true}, {interval.Below(empty, empty), true}, {interval.Below(empty, all), true}, {interval.Below(all, empty), true}, {interval.Below(all, all), false}, {interval.Below(iv(1, inf), iv(5, inf)), false}, {interval.Below(iv(2, 1), iv(-inf, 0)), true}, {interval.Below(iv(5, inf), point(theNaN)), true},
	} {
		if c.got != c.want {
			t.Errorf("case %d: %v", i, c.got)
		}
	}
}

// P6.2: Hull and Meet.
func TestHullAndMeet(t *testing.T) {
	wrong := 0
	for _, p := range pairs() {
		a, b := p[0], p[1]
		// What both hold is an interval: its ends are among theirs.
		var both []real
		for _, x := range append(outermost(a), outermost(b)...) {
			if holdsReal(a, x) && holdsReal(b, x) {
				both = append(both, x)
			}
		}
		if got, want := interval.Hull(a, b), closure(append(outermost(a), outermost(b)...)); !same(got, want) {
			t.Errorf("Hull(%x, %x): %x, not %x", a, b, got, want)
			few(t, &wrong)
		}
		if got, want := interval.Meet(a, b), closure(both); !same(got, want) {
			t.Errorf("Meet(%x, %x): %x, not %x", a, b, got, want)
			few(t, &wrong)
		}
	}
}

// P6.2, case by case.
func TestHullAndMeetCases(t *testing.T) {
	for i, c := range []struct{ got, want api.Interval }{
		{interval.Hull(iv(1, 2), iv(5, 6)), iv(1, 6)}, {interval.Hull(iv(5, 6), iv(1, 2)), iv(1, 6)}, {interval.Hull(empty, iv(1, 2)), iv(1, 2)}, {interval.Hull(iv(1, 2), empty), iv(1, 2)}, {interval.Hull(empty, empty), empty}, {interval.Hull(iv(minus, minus), empty), point(0)},
		{interval.Hull(iv(-inf, -1), iv(1, inf)), all}, {interval.Hull(iv(2, 1), iv(theNaN, 1)), empty}, {interval.Hull(iv(theNaN, 0), point(7)), point(7)}, {interval.Hull(iv(-1, minus), iv(-3, -2)), iv(-3, 0)}, {interval.Hull(all, empty), all},
		{interval.Meet(iv(1, 5), iv(4, 6)), iv(4, 5)}, {interval.Meet(iv(1, 2), iv(3, 4)), empty}, {interval.Meet(iv(1, 2), iv(2, 4)), point(2)}, {interval.Meet(all, iv(1, 2)), iv(1, 2)}, {interval.Meet(all, empty), empty}, {interval.Meet(iv(-1, minus), iv(minus, 1)), point(0)}, {interval.Meet(all, all), all},
		{interval.Meet(iv(-inf, 3), iv(3, inf)), point(3)}, {interval.Meet(iv(1, 2), iv(2, 1)), empty}, {interval.Meet(iv(most, inf), iv(-inf, -most)), empty}, {interval.Meet(point(inf), all), empty}, {interval.Meet(iv(most, inf), iv(3, inf)), iv(most, inf)},
	} {
		if !same(c.got, c.want) {
			t.Errorf("case %d: %x, not %x", i, c.got, c.want)
		}
	}
}
