package interval_test

import (
	"math"
	"math/rand"
	"testing"

	"binnacle/api"
	"binnacle/interval"
)

// stays tells whether an answer holds what comes of numbers exactly, and their rounded one where that is finite.
func stays(a api.Interval, exact real, rounded float64) bool {
	return holdsReal(a, exact) && (math.IsInf(rounded, 0) || interval.Has(a, rounded))
}

// P6.6: what is inside stays inside.
func TestInside(t *testing.T) {
	wrong := 0
	r := rand.New(rand.NewSource(31))
	for _, p := range pairs() {
		a, b := p[0], p[1]
		if !holds(a) || !holds(b) {
			continue
		}
		for range 4 {
			x, y := inside(r, a), inside(r, b)
			if !interval.Has(a, x) || !interval.Has(b, y) {
				t.Fatalf("%x, %x isn't in %x, %x", x, y, a, b)
			}
			u, v := realOf(x), realOf(y)
			if !stays(interval.Add(a, b), u.add(v), x+y) || !stays(interval.Sub(a, b), u.sub(v), x-y) || !stays(interval.Mul(a, b), u.mul(v), x*y) || y != 0 && !stays(interval.Div(a, b), u.div(v), x/y) {
				t.Errorf("%x of %x and %x of %x", x, a, y, b)
				few(t, &wrong)
			}
			if !stays(interval.Neg(a), u.neg(), -x) || !stays(interval.Abs(a), u.abs(), math.Abs(x)) {
				t.Errorf("Neg or Abs: %x of %x", x, a)
				few(t, &wrong)
			}
			if x >= 0 && !holdsRoot(interval.Sqrt(a), x) {
				t.Errorf("Sqrt: %x of %x", x, a)
				few(t, &wrong)
			}
		}
	}
}

// holdsRoot tells it of the exact root, by squares, and of the rounded one.
func holdsRoot(a api.Interval, x float64) bool {
	lo, exact := realOf(a.Lo), realOf(x)
	above := a.Hi == inf || realOf(a.Hi).pow(2).cmp(exact) >= 0
	return a.Lo >= 0 && lo.pow(2).cmp(exact) <= 0 && above && interval.Has(a, math.Sqrt(x))
}

// P6.6, of Pow: the exact power, and that one rounded.
func TestInsideOfPow(t *testing.T) {
	r := rand.New(rand.NewSource(32))
	for _, a := range intervals() {
		if !holds(a) {
			continue
		}
		x, n := inside(r, a), r.Intn(api.MaxPow+1)
		exact := realOf(x).pow(n)
		if p, _ := interval.Pow(a, n); !stays(p, exact, exact.nearest()) {
			t.Errorf("%x of %x to the power of %d isn't in %x", x, a, n, p)
		}
	}
}

// P6.6, of Dot: the exact sum of the exact products, and the dot product in order.
func TestInsideOfDot(t *testing.T) {
	r := rand.New(rand.NewSource(33))
	for _, l := range lists() {
		d, _ := interval.Dot(l[0], l[1])
		if !holds(d) {
			continue
		}
		for range 4 {
			exact, rounded := realOf(0), 0.0
			for i := range l[0] {
				x, y := inside(r, l[0][i]), inside(r, l[1][i])
				exact = exact.add(realOf(x).mul(realOf(y)))
				rounded += float64(x * y)
			}
			if math.IsNaN(rounded) {
				rounded = inf
			}
			if !stays(d, exact, rounded) {
				t.Errorf("Dot(%x, %x): %x holds neither or but one of %v and %x", l[0], l[1], d, exact, rounded)
			}
		}
	}
}

// wider is an interval that has all of another one.
func wider(r *rand.Rand, a api.Interval) api.Interval {
	a = plain(a)
	switch r.Intn(6) {
	case 0:
		return a
	case 1:
		return all
	case 2:
		return plain(iv(a.Lo, next(a.Hi)))
	case 3:
		return plain(iv(prev(a.Lo), a.Hi))
	}
	b := chance(r)
	if !holds(b) {
		return a
	}
	return plain(iv(min(a.Lo, b.Lo), max(a.Hi, b.Hi)))
}

// P6.7: rising.
func TestRising(t *testing.T) {
	wrong, met := 0, 0
	r := rand.New(rand.NewSource(34))
	for _, p := range pairs() {
		a, b := p[0], p[1]
		c, d := wider(r, a), wider(r, b)
		if !interval.In(a, c) || !interval.In(b, d) {
			t.Fatalf("In(%x, %x) or In(%x, %x) is false", a, c, b, d)
		}
		for name, call := range two() {
			if !interval.In(call(a, b), call(c, d)) {
				t.Errorf("%s(%x, %x) isn't in that of %x, %x", name, a, b, c, d)
				few(t, &wrong)
			}
			if !same(call(a, b), call(c, d)) {
				met++
			}
		}
		for name, call := range one() {
			if !interval.In(call(a), call(c)) {
				t.Errorf("%s(%x) isn't in that of %x", name, a, c)
				few(t, &wrong)
			}
		}
	}
	if met < 10000 {
		t.Error("only", met, "answers were wider")
	}
}

// narrower are the intervals that lack one number at one end.
func narrower(a api.Interval) []api.Interval {
	return []api.Interval{iv(next(a.Lo), a.Hi), iv(a.Lo, prev(a.Hi))}
}

// loses tells whether each narrower interval fails to hold one of those that must be held.
func loses(a api.Interval, must []real) bool {
	for _, b := range narrower(a) {
		lost := false
		for _, x := range must {
			lost = lost || !holdsReal(b, x)
		}
		if !lost {
			return false
		}
	}
	return true
}

// P6.8: as narrow as can be.
func TestNarrow(t *testing.T) {
	wrong := 0
	for _, p := range pairs() {
		a, b := p[0], p[1]
		for name, c := range map[string]struct {
			got  api.Interval
			must []real
		}{"Add": {interval.Add(a, b), sums(a, b)}, "Sub": {interval.Sub(a, b), differences(a, b)}, "Mul": {interval.Mul(a, b), products(a, b)}, "Div": {interval.Div(a, b), quotients(a, b)}} {
			if len(c.must) == 0 && !same(c.got, empty) || len(c.must) > 0 && !loses(c.got, c.must) {
				t.Errorf("%s(%x, %x): %x could be narrower", name, a, b, c.got)
				few(t, &wrong)
			}
		}
	}
}

// P6.8, of Pow and Sqrt.
func TestNarrowOfPowAndSqrt(t *testing.T) {
	for _, a := range intervals() {
		if !holds(a) {
			continue
		}
		for _, n := range []int{0, 1, 2, 3, 15, 16} {
			if p, _ := interval.Pow(a, n); !loses(p, powers(a, n)) {
				t.Errorf("Pow(%x, %d): %x could be narrower", a, n, p)
			}
		}
		root := interval.Sqrt(a)
		if !holds(root) {
			continue
		}
		// A number stays below a root just if its square stays below: the next one at Lo must not, nor the one ahead of Hi above.
		if x := realOf(next(root.Lo)).pow(2); !x.above(max(a.Lo, 0)) {
			t.Errorf("Sqrt(%x): the low end of %x could be higher", a, root)
		}
		if x := realOf(prev(root.Hi)); root.Hi > 0 && !x.pow(2).below(a.Hi) {
			t.Errorf("Sqrt(%x): the high end of %x could be lower", a, root)
		}
	}
}

// triples are intervals three by three.
func triples() [][3]api.Interval {
	var out [][3]api.Interval
	r := rand.New(rand.NewSource(35))
	some := append(named(), none()...)
	for range 20000 {
		pick := func() api.Interval {
			if r.Intn(2) == 0 {
				return chance(r)
			}
			return some[r.Intn(len(some))]
		}
		a, b, c := pick(), pick(), pick()
		if r.Intn(3) == 0 {
			b = wider(r, a)
			c = wider(r, b)
		}
		out = append(out, [3]api.Interval{a, b, c})
	}
	return out
}

// P6.9: sets.
func TestSets(t *testing.T) {
	wrong, ordered := 0, 0
	for _, l := range triples() {
		a, b, c := l[0], l[1], l[2]
		for name, call := range map[string]func(a, b api.Interval) api.Interval{"Hull": interval.Hull, "Meet": interval.Meet} {
			if !same(call(a, b), call(b, a)) || !same(call(call(a, b), c), call(a, call(b, c))) {
				t.Errorf("%s of %x, %x, %x hangs on their order", name, a, b, c)
				few(t, &wrong)
			}
		}
		if got := interval.Meet(a, interval.Hull(a, b)); !same(got, plain(a)) {
			t.Errorf("Meet(a, Hull(a, b)) of %x, %x: %x", a, b, got)
			few(t, &wrong)
		}
		if !interval.In(a, a) || interval.In(a, b) && interval.In(b, a) != same(plain(a), plain(b)) {
			t.Errorf("In of %x, %x", a, b)
			few(t, &wrong)
		}
		if interval.In(a, b) && interval.In(b, c) {
			if ordered++; !interval.In(a, c) {
				t.Errorf("In(%x, %x) and In(%x, %x), but not In of the first in the last", a, b, b, c)
				few(t, &wrong)
			}
		}
		if interval.Meets(a, b) == same(interval.Meet(a, b), empty) {
			t.Errorf("Meets(%x, %x) and Meet are at odds", a, b)
			few(t, &wrong)
		}
	}
	if ordered < 1000 {
		t.Error("only", ordered, "were in one another")
	}
}

// P6.10: Add and Mul.
func TestAddAndMul(t *testing.T) {
	wrong := 0
	for _, p := range pairs() {
		a, b := p[0], p[1]
		if !same(interval.Add(a, b), interval.Add(b, a)) || !same(interval.Mul(a, b), interval.Mul(b, a)) {
			t.Errorf("Add or Mul of %x, %x hangs on their order", a, b)
			few(t, &wrong)
		}
		if !same(interval.Sub(a, b), interval.Add(a, interval.Neg(b))) {
			t.Errorf("Sub(%x, %x) isn't Add of Neg", a, b)
			few(t, &wrong)
		}
	}
	for _, a := range append(intervals(), none()...) {
		if !same(interval.Neg(interval.Neg(a)), plain(a)) {
			t.Errorf("Neg of Neg of %x: %x", a, interval.Neg(interval.Neg(a)))
		}
		if square, _ := interval.Pow(a, 2); !interval.In(square, interval.Mul(a, a)) {
			t.Errorf("Pow(%x, 2): %x isn't in Mul's %x", a, square, interval.Mul(a, a))
		}
	}
}

// P6.11: the middle.
func TestMiddleIsInside(t *testing.T) {
	for _, a := range intervals() {
		if !holds(a) {
			continue
		}
		mid, radius := interval.Mid(a), interval.Radius(a)
		if !interval.Has(a, mid) {
			t.Errorf("Mid(%x) is %x, outside", a, mid)
		}
		if radius == inf {
			continue
		}
		m, r := realOf(mid), realOf(radius)
		if m.sub(r).above(a.Lo) || m.add(r).below(a.Hi) {
			t.Errorf("%x isn't within %x of %x", a, radius, mid)
		}
	}
}
