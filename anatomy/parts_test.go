package anatomy_test

import (
	"math"
	"math/big"
	"math/rand"
	"testing"

	"binnacle/anatomy"
	"binnacle/api"
)

// P1.3
func TestParts(t *testing.T) {
	for _, c := range []struct {
		x    float64
		want api.Parts
	}{
		{1.5, api.Parts{Mant: 3, Exp: -1}}, {0, api.Parts{}}, {minusZero, api.Parts{Neg: true}}, {least, api.Parts{Mant: 1, Exp: -1074}},
		{-6, api.Parts{Neg: true, Mant: 3, Exp: 1}}, {math.MaxFloat64, api.Parts{Mant: 1<<53 - 1, Exp: 971}}, {0x1p1023, api.Parts{Mant: 1, Exp: 1023}},
		{-0x1p-1022, api.Parts{Neg: true, Mant: 1, Exp: -1022}}, {0x1p-1022 - least, api.Parts{Mant: 1<<52 - 1, Exp: -1074}}, {12 * least, api.Parts{Mant: 3, Exp: -1072}},
	} {
		if p, err := anatomy.Parts(c.x); p != c.want || err != api.OK {
			t.Errorf("Parts(%g): %v %d", c.x, p, err)
		}
	}
	for _, x := range append(nans(), inf, -inf) {
		if p, err := anatomy.Parts(x); p != (api.Parts{}) || err != api.ErrNumber {
			t.Errorf("Parts(%x): %v %d", bits(x), p, err)
		}
	}
}

// P1.3
func TestParts32(t *testing.T) {
	for _, c := range []struct {
		x    float32
		want api.Parts
	}{
		{1.5, api.Parts{Mant: 3, Exp: -1}}, {0, api.Parts{}}, {minusZero32, api.Parts{Neg: true}}, {least32, api.Parts{Mant: 1, Exp: -149}},
		{-6, api.Parts{Neg: true, Mant: 3, Exp: 1}}, {math.MaxFloat32, api.Parts{Mant: 1<<24 - 1, Exp: 104}}, {0x1p127, api.Parts{Mant: 1, Exp: 127}},
		{-0x1p-126, api.Parts{Neg: true, Mant: 1, Exp: -126}}, {0x1p-126 - least32, api.Parts{Mant: 1<<23 - 1, Exp: -149}}, {12 * least32, api.Parts{Mant: 3, Exp: -147}},
	} {
		if p, err := anatomy.Parts32(c.x); p != c.want || err != api.OK {
			t.Errorf("Parts32(%g): %v %d", c.x, p, err)
		}
	}
	for _, x := range append(nans32(), inf32, -inf32) {
		if p, err := anatomy.Parts32(x); p != (api.Parts{}) || err != api.ErrNumber {
			t.Errorf("Parts32(%x): %v %d", bits32(x), p, err)
		}
	}
}

// P1.3
func TestOf(t *testing.T) {
	for _, c := range []struct {
		p    api.Parts
		want float64
		err  api.Errno
	}{
		{api.Parts{Mant: 3, Exp: 1}, 6, api.OK}, {api.Parts{Mant: 1, Exp: -1075}, 0, api.ErrParts}, {api.Parts{Mant: 2, Exp: -1075}, least, api.OK},
		{api.Parts{Mant: 1<<53 + 1}, 0, api.ErrParts}, {api.Parts{Mant: 1<<54 + 2}, 0, api.ErrParts}, {api.Parts{Mant: 1<<53 + 2}, 1<<53 + 2, api.OK}, {api.Parts{Neg: true, Exp: 77}, minusZero, api.OK},
		{api.Parts{Neg: true, Exp: math.MinInt}, minusZero, api.OK}, {api.Parts{Exp: math.MaxInt}, 0, api.OK},
		{api.Parts{Mant: 1<<53 - 1, Exp: 971}, math.MaxFloat64, api.OK}, {api.Parts{Neg: true, Mant: (1<<53 - 1) << 11, Exp: 960}, -math.MaxFloat64, api.OK},
		{api.Parts{Neg: true, Mant: 1, Exp: 1024}, 0, api.ErrParts}, {api.Parts{Mant: 1, Exp: 1023}, 0x1p1023, api.OK}, {api.Parts{Mant: 1 << 53, Exp: 971}, 0, api.ErrParts},
		{api.Parts{Mant: 1 << 63, Exp: 960}, 0x1p1023, api.OK}, {api.Parts{Mant: 1 << 63, Exp: 961}, 0, api.ErrParts},
		{api.Parts{Mant: 1 << 63, Exp: -1137}, least, api.OK}, {api.Parts{Mant: 1 << 63, Exp: -1138}, 0, api.ErrParts}, {api.Parts{Mant: 3 << 62, Exp: -1136}, 3 * least, api.OK}, {api.Parts{Mant: 3 << 62, Exp: -1137}, 0, api.ErrParts},
		{api.Parts{Mant: 1<<52 - 1, Exp: -1074}, 0x1p-1022 - least, api.OK}, {api.Parts{Mant: 1 << 52, Exp: -1074}, 0x1p-1022, api.OK}, {api.Parts{Mant: 1<<53 - 1, Exp: -1075}, 0, api.ErrParts},
		{api.Parts{Mant: math.MaxUint64}, 0, api.ErrParts}, {api.Parts{Mant: 1, Exp: math.MaxInt}, 0, api.ErrParts}, {api.Parts{Mant: 1 << 63, Exp: math.MinInt}, 0, api.ErrParts},
		{api.Parts{Mant: 2, Exp: math.MaxInt}, 0, api.ErrParts}, {api.Parts{Mant: 1 << 63, Exp: math.MaxInt - 62}, 0, api.ErrParts},
	} {
		if x, err := anatomy.Of(c.p); bits(x) != bits(c.want) || err != c.err {
			t.Errorf("Of(%v): %x %d", c.p, bits(x), err)
		}
	}
}

// P1.3
func TestOf32(t *testing.T) {
	for _, c := range []struct {
		p    api.Parts
		want float32
		err  api.Errno
	}{
		{api.Parts{Mant: 3, Exp: 1}, 6, api.OK}, {api.Parts{Mant: 1, Exp: -150}, 0, api.ErrParts}, {api.Parts{Mant: 2, Exp: -150}, least32, api.OK},
		{api.Parts{Mant: 1<<24 + 1}, 0, api.ErrParts}, {api.Parts{Mant: 1<<24 + 2}, 1<<24 + 2, api.OK}, {api.Parts{Neg: true, Exp: 77}, minusZero32, api.OK},
		{api.Parts{Neg: true, Exp: math.MinInt}, minusZero32, api.OK}, {api.Parts{Exp: math.MaxInt}, 0, api.OK},
		{api.Parts{Mant: 1<<24 - 1, Exp: 104}, math.MaxFloat32, api.OK}, {api.Parts{Neg: true, Mant: (1<<24 - 1) << 40, Exp: 64}, -math.MaxFloat32, api.OK},
		{api.Parts{Neg: true, Mant: 1, Exp: 128}, 0, api.ErrParts}, {api.Parts{Mant: 1, Exp: 127}, 0x1p127, api.OK}, {api.Parts{Mant: 1 << 24, Exp: 104}, 0, api.ErrParts},
		{api.Parts{Mant: 1 << 63, Exp: 64}, 0x1p127, api.OK}, {api.Parts{Mant: 1 << 63, Exp: 65}, 0, api.ErrParts},
		{api.Parts{Mant: 1 << 63, Exp: -212}, least32, api.OK}, {api.Parts{Mant: 1 << 63, Exp: -213}, 0, api.ErrParts},
		{api.Parts{Mant: 1<<23 - 1, Exp: -149}, 0x1p-126 - least32, api.OK}, {api.Parts{Mant: 1 << 23, Exp: -149}, 0x1p-126, api.OK},
		{api.Parts{Mant: 1<<32 + 1}, 0, api.ErrParts}, {api.Parts{Mant: math.MaxUint64}, 0, api.ErrParts},
		{api.Parts{Mant: 1, Exp: math.MaxInt}, 0, api.ErrParts}, {api.Parts{Mant: 1 << 63, Exp: math.MinInt}, 0, api.ErrParts},
	} {
		if x, err := anatomy.Of32(c.p); bits32(x) != bits32(c.want) || err != c.err {
			t.Errorf("Of32(%v): %x %d", c.p, bits32(x), err)
		}
	}
}

// chanceParts are parts about the ends of the numbers, and within, most of them of one only.
func chanceParts(r *rand.Rand, lowest, highest int) api.Parts {
	mant := r.Uint64() >> r.Intn(64) << r.Intn(64)
	exp := []int{lowest, highest, 0}[r.Intn(3)] + r.Intn(140) - 70
	return api.Parts{Neg: r.Intn(2) == 1, Mant: mant, Exp: exp}
}

// P1.3, held against the library of great numbers.
func TestOfByChance(t *testing.T) {
	r := rand.New(rand.NewSource(3))
	taken := 0
	for range 200000 {
		p := chanceParts(r, -1074, 1023)
		near, acc := exactly(p.Neg, p.Mant, p.Exp).Float64()
		want := api.OK
		if acc != big.Exact || math.IsInf(near, 0) {
			near, want = 0, api.ErrParts
		} else {
			taken++
		}
		if x, err := anatomy.Of(p); bits(x) != bits(near) || err != want {
			t.Fatalf("Of(%v): %x %d in place of %x %d", p, bits(x), err, bits(near), want)
		}
	}
	if taken < 20000 {
		t.Error("only", taken, "parts were of a number")
	}
}

// P1.3, held against the library of great numbers.
func TestOf32ByChance(t *testing.T) {
	r := rand.New(rand.NewSource(4))
	taken := 0
	for range 200000 {
		p := chanceParts(r, -149, 127)
		near, acc := exactly(p.Neg, p.Mant, p.Exp).Float32()
		want := api.OK
		if acc != big.Exact || math.IsInf(float64(near), 0) {
			near, want = 0, api.ErrParts
		} else {
			taken++
		}
		if x, err := anatomy.Of32(p); bits32(x) != bits32(near) || err != want {
			t.Fatalf("Of32(%v): %x %d in place of %x %d", p, bits32(x), err, bits32(near), want)
		}
	}
	if taken < 20000 {
		t.Error("only", taken, "parts were of a single")
	}
}

// isParts tells whether parts are the one way to write a value, and have it.
func isParts(p api.Parts, x float64) bool {
	if x == 0 {
		return p == api.Parts{Neg: math.Signbit(x)}
	}
	return p.Mant%2 == 1 && p.Neg == (x < 0) && exactly(p.Neg, p.Mant, p.Exp).Cmp(big.NewFloat(x)) == 0
}

// P1.3, P1.7
func TestOfOfParts(t *testing.T) {
	for _, x := range samples() {
		if math.IsInf(x, 0) {
			continue
		}
		p, err := anatomy.Parts(x)
		if !isParts(p, x) || err != api.OK {
			t.Fatalf("Parts(%x): %v %d", bits(x), p, err)
		}
		if y, err := anatomy.Of(p); bits(y) != bits(x) || err != api.OK {
			t.Fatalf("%x comes back as %x %d", bits(x), bits(y), err)
		}
	}
	for _, x := range samples32() {
		if math.IsInf(float64(x), 0) {
			continue
		}
		p, err := anatomy.Parts32(x)
		if !isParts(p, float64(x)) || err != api.OK {
			t.Fatalf("Parts32(%x): %v %d", bits32(x), p, err)
		}
		if y, err := anatomy.Of32(p); bits32(y) != bits32(x) || err != api.OK {
			t.Fatalf("%x comes back as %x %d", bits32(x), bits32(y), err)
		}
	}
}

// P1.7
func TestPartsOfOf(t *testing.T) {
	r := rand.New(rand.NewSource(5))
	for range 100000 {
		p := chanceParts(r, -1074, 1023)
		if x, err := anatomy.Of(p); err == api.OK && p.Mant != 0 {
			if q, err := anatomy.Parts(x); err != api.OK || q.Mant%2 == 0 || exactly(p.Neg, p.Mant, p.Exp).Cmp(exactly(q.Neg, q.Mant, q.Exp)) != 0 {
				t.Fatalf("%v comes back as %v %d", p, q, err)
			}
		}
		p = chanceParts(r, -149, 127)
		if x, err := anatomy.Of32(p); err == api.OK && p.Mant != 0 {
			if q, err := anatomy.Parts32(x); err != api.OK || q.Mant%2 == 0 || exactly(p.Neg, p.Mant, p.Exp).Cmp(exactly(q.Neg, q.Mant, q.Exp)) != 0 {
				t.Fatalf("%v comes back as %v %d, single", p, q, err)
			}
		}
	}
}
