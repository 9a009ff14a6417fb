package anatomy_test

import (
	"math"
	"math/big"
	"slices"
	"testing"

	"binnacle/anatomy"
	"binnacle/api"
)

const (
	keyInf = 9218868437227405312
	keyNaN = keyInf + 1
)

// P1.6
func TestKey(t *testing.T) {
	for _, c := range []struct {
		x   float64
		key int64
	}{
		{0, 0}, {minusZero, -1}, {least, 1}, {-least, -2}, {1, 4607182418800017408}, {-1, -4607182418800017409},
		{0x1p-1022, 1 << 52}, {math.MaxFloat64, keyInf - 1}, {inf, keyInf}, {-math.MaxFloat64, -keyInf}, {-inf, -keyInf - 1},
	} {
		if k := anatomy.Key(c.x); k != c.key {
			t.Errorf("Key(%g): %d", c.x, k)
		}
		if x, err := anatomy.Unkey(c.key); bits(x) != bits(c.x) || err != api.OK {
			t.Errorf("Unkey(%d): %g %d", c.key, x, err)
		}
	}
	for _, x := range nans() {
		if k := anatomy.Key(x); k != keyNaN {
			t.Errorf("Key(%x): %d", bits(x), k)
		}
	}
}

// P1.6
func TestUnkeyEnds(t *testing.T) {
	if x, err := anatomy.Unkey(keyNaN); bits(x) != theNaN || err != api.OK {
		t.Errorf("Unkey at the NaN: %x %d", bits(x), err)
	}
	for _, k := range []int64{keyNaN + 1, math.MaxInt64, -keyInf - 2, math.MinInt64} {
		if x, err := anatomy.Unkey(k); bits(x) != 0 || err != api.ErrRange {
			t.Errorf("Unkey(%d): %x %d", k, bits(x), err)
		}
	}
}

// P1.7
func TestUnkeyOfKey(t *testing.T) {
	for _, x := range samples() {
		if y, err := anatomy.Unkey(anatomy.Key(x)); bits(y) != bits(x) || err != api.OK {
			t.Fatalf("%x comes back as %x %d", bits(x), bits(y), err)
		}
	}
	for _, x := range nans() {
		if y, err := anatomy.Unkey(anatomy.Key(x)); bits(y) != theNaN || err != api.OK {
			t.Errorf("%x comes back as %x %d", bits(x), bits(y), err)
		}
	}
}

// stands is the total order by the words of the document: values, then -0 ahead of +0, NaNs last.
func stands(a, b float64) int {
	switch {
	case a != a || b != b:
		return truth(a != a) - truth(b != b)
	case a != b:
		return truth(a > b) - truth(a < b)
	}
	return truth(math.Signbit(b)) - truth(math.Signbit(a))
}

func truth(b bool) int {
	if b {
		return 1
	}
	return 0
}

func keyGap(a, b float64) *big.Int {
	return new(big.Int).Sub(big.NewInt(anatomy.Key(a)), big.NewInt(anatomy.Key(b)))
}

// ordered are some hundred numbers, among them all kinds.
func ordered() []float64 {
	out := append(nans(), inf, -inf, 0, minusZero, least, -least, math.MaxFloat64, -math.MaxFloat64, 0x1p-1022, -0x1p-1022)
	all := samples()
	for i := 0; i < len(all); i += len(all) / 300 {
		out = append(out, all[i])
	}
	return out
}

// P1.6, P1.9
func TestCompare(t *testing.T) {
	for _, a := range ordered() {
		for _, b := range ordered() {
			c := anatomy.Compare(a, b)
			if c != stands(a, b) || c != keyGap(a, b).Sign() || c != -anatomy.Compare(b, a) {
				t.Fatalf("Compare(%x, %x): %d", bits(a), bits(b), c)
			}
			if (c == 0) != anatomy.Same(a, b) {
				t.Fatalf("Compare(%x, %x) is %d, but Same tells otherwise", bits(a), bits(b), c)
			}
		}
	}
	if anatomy.Compare(math.NaN(), inf) != 1 || anatomy.Compare(minusZero, 0) != -1 || anatomy.Compare(-inf, -math.MaxFloat64) != -1 {
		t.Error("the edges of the order")
	}
}

// P1.9: what is sorted stands in order throughout, not only each beside the next.
func TestOrderIsTotal(t *testing.T) {
	l := ordered()
	slices.SortStableFunc(l, anatomy.Compare)
	for i := range l {
		for j := range i {
			if anatomy.Compare(l[j], l[i]) > 0 || anatomy.Key(l[j]) > anatomy.Key(l[i]) {
				t.Fatalf("%x behind %x", bits(l[j]), bits(l[i]))
			}
		}
	}
	if bits(l[0]) != bits(-inf) || l[len(l)-1] == l[len(l)-1] {
		t.Error("the ends of the order")
	}
}

// P1.6
func TestSteps(t *testing.T) {
	for _, c := range []struct {
		a, b float64
		n    uint64
	}{
		{1, 2, 4503599627370496}, {minusZero, 0, 1}, {least, -least, 3}, {1, 1, 0}, {-inf, inf, 18437736874454810625}, {math.MaxFloat64, inf, 1}, {-1, 1, 2*4607182418800017408 + 1},
	} {
		if n, err := anatomy.Steps(c.a, c.b); n != c.n || err != api.OK {
			t.Errorf("Steps(%g, %g): %d %d", c.a, c.b, n, err)
		}
		if n, err := anatomy.Steps(c.b, c.a); n != c.n || err != api.OK {
			t.Errorf("Steps(%g, %g): %d %d", c.b, c.a, n, err)
		}
	}
	for _, a := range ordered() {
		for _, b := range ordered() {
			n, err := anatomy.Steps(a, b)
			if a != a || b != b {
				if n != 0 || err != api.ErrNumber {
					t.Fatalf("Steps(%x, %x): %d %d", bits(a), bits(b), n, err)
				}
				continue
			}
			if want := new(big.Int).Abs(keyGap(a, b)); err != api.OK || want.Cmp(new(big.Int).SetUint64(n)) != 0 {
				t.Fatalf("Steps(%x, %x): %d %d", bits(a), bits(b), n, err)
			}
		}
	}
}
