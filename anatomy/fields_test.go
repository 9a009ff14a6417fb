package anatomy_test

import (
	"math"
	"testing"

	"binnacle/anatomy"
	"binnacle/api"
)

// P1.1
func TestSame(t *testing.T) {
	for _, x := range samples() {
		if !anatomy.Same(x, x) || anatomy.Same(x, -x) || anatomy.Same(x, math.NaN()) || anatomy.Same(math.NaN(), x) {
			t.Fatalf("Same of %x", bits(x))
		}
	}
	for _, a := range nans() {
		for _, b := range nans() {
			if !anatomy.Same(a, b) {
				t.Errorf("Same(%x, %x) is false", bits(a), bits(b))
			}
		}
	}
	if anatomy.Same(0, minusZero) || anatomy.Same(1, math.Nextafter(1, 2)) || anatomy.Same(inf, math.MaxFloat64) {
		t.Error("unlike numbers are told to be the same")
	}
}

// P1.1
func TestSame32(t *testing.T) {
	for _, x := range samples32() {
		if !anatomy.Same32(x, x) || anatomy.Same32(x, -x) || anatomy.Same32(x, nans32()[0]) || anatomy.Same32(nans32()[0], x) {
			t.Fatalf("Same32 of %x", bits32(x))
		}
	}
	for _, a := range nans32() {
		for _, b := range nans32() {
			if !anatomy.Same32(a, b) {
				t.Errorf("Same32(%x, %x) is false", bits32(a), bits32(b))
			}
		}
	}
	if anatomy.Same32(0, minusZero32) || anatomy.Same32(1, math.Nextafter32(1, 2)) || anatomy.Same32(inf32, math.MaxFloat32) {
		t.Error("unlike singles are told to be the same")
	}
}

// P1.1
func TestCanon(t *testing.T) {
	for _, x := range samples() {
		if bits(anatomy.Canon(x)) != bits(x) {
			t.Fatalf("Canon(%x): %x", bits(x), bits(anatomy.Canon(x)))
		}
	}
	for _, x := range nans() {
		if bits(anatomy.Canon(x)) != theNaN {
			t.Errorf("Canon(%x): %x", bits(x), bits(anatomy.Canon(x)))
		}
	}
	for _, x := range samples32() {
		if bits32(anatomy.Canon32(x)) != bits32(x) {
			t.Fatalf("Canon32(%x): %x", bits32(x), bits32(anatomy.Canon32(x)))
		}
	}
	for _, x := range nans32() {
		if bits32(anatomy.Canon32(x)) != theNaN32 {
			t.Errorf("Canon32(%x): %x", bits32(x), bits32(anatomy.Canon32(x)))
		}
	}
}

// class is told by comparing magnitudes, not by fields.
func class(x, leastNormal float64) api.Class {
	x = math.Abs(x)
	switch {
	case x != x:
		return 1
	case x == inf:
		return 2
	case x == 0:
		return 3
	case x < leastNormal:
		return 4
	}
	return 5
}

// P1.1
func TestClass(t *testing.T) {
	for _, x := range append(samples(), nans()...) {
		if c := anatomy.Class(x); c != class(x, 0x1p-1022) {
			t.Fatalf("Class(%x): %d", bits(x), c)
		}
	}
	for _, x := range append(samples32(), nans32()...) {
		if c := anatomy.Class32(x); c != class(float64(x), 0x1p-126) {
			t.Fatalf("Class32(%x): %d", bits32(x), c)
		}
	}
	for _, c := range []struct {
		x    float64
		want api.Class
	}{
		{math.NaN(), api.ClassNaN}, {-inf, api.ClassInfinite}, {minusZero, api.ClassZero}, {0, api.ClassZero},
		{least, api.ClassSub}, {-0x1p-1022 + least, api.ClassSub}, {0x1p-1022, api.ClassNormal}, {-math.MaxFloat64, api.ClassNormal},
	} {
		if got := anatomy.Class(c.x); got != c.want {
			t.Errorf("Class(%g): %d", c.x, got)
		}
	}
}

// P1.1, P3
func TestFinite(t *testing.T) {
	if !anatomy.Finite(nil) || !anatomy.Finite([]float64{}) {
		t.Error("a list without numbers is finite")
	}
	whole := samples()
	whole = whole[:len(whole)-2]
	if !anatomy.Finite(whole) {
		t.Error("a list of finite numbers is told not to be")
	}
	for _, bad := range append(nans(), inf, -inf) {
		for place := range 3 {
			l := []float64{0, least, -math.MaxFloat64}
			l[place] = bad
			if anatomy.Finite(l) {
				t.Errorf("Finite with %x at %d", bits(bad), place)
			}
		}
	}
}

// P1.2
func TestSplit(t *testing.T) {
	for _, c := range []struct {
		x    float64
		neg  bool
		exp  int
		frac uint64
	}{
		{1.5, false, 1023, 2251799813685248}, {0, false, 0, 0}, {minusZero, true, 0, 0}, {-least, true, 0, 1},
		{0x1p-1022, false, 1, 0}, {math.MaxFloat64, false, 2046, 1<<52 - 1}, {inf, false, 2047, 0}, {-inf, true, 2047, 0}, {-3, true, 1024, 1 << 51},
	} {
		if neg, exp, frac := anatomy.Split(c.x); neg != c.neg || exp != c.exp || frac != c.frac {
			t.Errorf("Split(%g): %v %d %d", c.x, neg, exp, frac)
		}
	}
	for _, x := range nans() {
		if neg, exp, frac := anatomy.Split(x); neg || exp != 2047 || frac != 1<<51+1 {
			t.Errorf("Split(%x): %v %d %d", bits(x), neg, exp, frac)
		}
	}
}

// P1.2
func TestSplit32(t *testing.T) {
	for _, c := range []struct {
		x    float32
		neg  bool
		exp  int
		frac uint32
	}{
		{0.1, false, 123, 5033165}, {0, false, 0, 0}, {minusZero32, true, 0, 0}, {-least32, true, 0, 1},
		{0x1p-126, false, 1, 0}, {math.MaxFloat32, false, 254, 1<<23 - 1}, {inf32, false, 255, 0}, {-inf32, true, 255, 0}, {-3, true, 128, 1 << 22},
	} {
		if neg, exp, frac := anatomy.Split32(c.x); neg != c.neg || exp != c.exp || frac != c.frac {
			t.Errorf("Split32(%g): %v %d %d", c.x, neg, exp, frac)
		}
	}
	for _, x := range nans32() {
		if neg, exp, frac := anatomy.Split32(x); neg || exp != 255 || frac != 1<<22 {
			t.Errorf("Split32(%x): %v %d %d", bits32(x), neg, exp, frac)
		}
	}
}

// P1.2
func TestJoin(t *testing.T) {
	for _, c := range []struct {
		neg  bool
		exp  int
		frac uint64
		want uint64
		err  api.Errno
	}{
		{false, 1023, 1 << 51, bits(1.5), api.OK}, {true, 0, 0, bits(minusZero), api.OK}, {false, 0, 0, 0, api.OK}, {true, 0, 1, bits(-least), api.OK},
		{false, 2046, 1<<52 - 1, bits(math.MaxFloat64), api.OK}, {true, 2047, 0, bits(-inf), api.OK}, {false, 2047, 0, bits(inf), api.OK},
		{true, 2047, 5, theNaN, api.OK}, {false, 2047, 1<<52 - 1, theNaN, api.OK}, {false, 0, 1<<52 - 1, 1<<52 - 1, api.OK},
		{false, 2048, 0, 0, api.ErrRange}, {true, -1, 0, 0, api.ErrRange}, {true, 0, 1 << 52, 0, api.ErrRange}, {false, 2047, 1 << 52, 0, api.ErrRange},
		{true, math.MaxInt, 7, 0, api.ErrRange}, {true, math.MinInt, 7, 0, api.ErrRange}, {true, 5, math.MaxUint64, 0, api.ErrRange}, {false, math.MaxInt/2 + 6, 0, 0, api.ErrRange}, {false, math.MinInt + 5, 0, 0, api.ErrRange},
	} {
		if x, err := anatomy.Join(c.neg, c.exp, c.frac); bits(x) != c.want || err != c.err {
			t.Errorf("Join(%v, %d, %d): %x %d", c.neg, c.exp, c.frac, bits(x), err)
		}
	}
}

// P1.2
func TestJoin32(t *testing.T) {
	for _, c := range []struct {
		neg  bool
		exp  int
		frac uint32
		want uint32
		err  api.Errno
	}{
		{false, 127, 1 << 22, bits32(1.5), api.OK}, {true, 0, 0, bits32(minusZero32), api.OK}, {false, 0, 0, 0, api.OK}, {true, 0, 1, bits32(-least32), api.OK},
		{false, 254, 1<<23 - 1, bits32(math.MaxFloat32), api.OK}, {true, 255, 0, bits32(-inf32), api.OK}, {false, 255, 0, bits32(inf32), api.OK},
		{true, 255, 5, theNaN32, api.OK}, {false, 255, 1<<23 - 1, theNaN32, api.OK}, {false, 0, 1<<23 - 1, 1<<23 - 1, api.OK},
		{false, 256, 0, 0, api.ErrRange}, {true, -1, 0, 0, api.ErrRange}, {true, 0, 1 << 23, 0, api.ErrRange}, {false, 255, 1 << 23, 0, api.ErrRange},
		{true, math.MaxInt, 7, 0, api.ErrRange}, {true, math.MinInt, 7, 0, api.ErrRange}, {true, 5, math.MaxUint32, 0, api.ErrRange}, {false, math.MaxInt/2 + 6, 0, 0, api.ErrRange}, {false, math.MinInt + 5, 0, 0, api.ErrRange},
	} {
		if x, err := anatomy.Join32(c.neg, c.exp, c.frac); bits32(x) != c.want || err != c.err {
			t.Errorf("Join32(%v, %d, %d): %x %d", c.neg, c.exp, c.frac, bits32(x), err)
		}
	}
}

// P1.7
func TestJoinOfSplit(t *testing.T) {
	for _, x := range samples() {
		if y, err := anatomy.Join(anatomy.Split(x)); bits(y) != bits(x) || err != api.OK {
			t.Fatalf("%x comes back as %x %d", bits(x), bits(y), err)
		}
	}
	for _, x := range nans() {
		if y, err := anatomy.Join(anatomy.Split(x)); bits(y) != theNaN || err != api.OK {
			t.Errorf("%x comes back as %x %d", bits(x), bits(y), err)
		}
	}
	for _, x := range samples32() {
		if y, err := anatomy.Join32(anatomy.Split32(x)); bits32(y) != bits32(x) || err != api.OK {
			t.Fatalf("%x comes back as %x %d", bits32(x), bits32(y), err)
		}
	}
	for _, x := range nans32() {
		if y, err := anatomy.Join32(anatomy.Split32(x)); bits32(y) != theNaN32 || err != api.OK {
			t.Errorf("%x comes back as %x %d", bits32(x), bits32(y), err)
		}
	}
}
