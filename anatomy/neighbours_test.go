package anatomy_test

import (
	"math"
	"testing"

	"binnacle/anatomy"
)

// P1.4
func TestNext(t *testing.T) {
	for _, c := range [][2]float64{
		{1, 1 + 0x1p-52}, {-1, -1 + 0x1p-53}, {0, least}, {minusZero, least}, {-least, minusZero}, {least, 2 * least}, {-2 * least, -least},
		{0x1p-1022 - least, 0x1p-1022}, {-0x1p-1022, -0x1p-1022 + least}, {math.MaxFloat64, inf}, {inf, inf}, {-inf, -math.MaxFloat64},
	} {
		if x := anatomy.Next(c[0]); bits(x) != bits(c[1]) {
			t.Errorf("Next(%g): %x", c[0], bits(x))
		}
		if x := anatomy.Prev(-c[0]); bits(x) != bits(-c[1]) {
			t.Errorf("Prev(%g): %x", -c[0], bits(x))
		}
	}
	for _, x := range nans() {
		if bits(anatomy.Next(x)) != theNaN || bits(anatomy.Prev(x)) != theNaN {
			t.Errorf("neighbours of %x: %x, %x", bits(x), bits(anatomy.Next(x)), bits(anatomy.Prev(x)))
		}
	}
	if anatomy.Prev(1) != 1-0x1p-53 {
		t.Error("Prev(1)")
	}
}

// P1.4
func TestNext32(t *testing.T) {
	for _, c := range [][2]float32{
		{1, 1 + 0x1p-23}, {-1, -1 + 0x1p-24}, {0, least32}, {minusZero32, least32}, {-least32, minusZero32}, {least32, 2 * least32}, {-2 * least32, -least32},
		{0x1p-126 - least32, 0x1p-126}, {-0x1p-126, -0x1p-126 + least32}, {math.MaxFloat32, inf32}, {inf32, inf32}, {-inf32, -math.MaxFloat32},
	} {
		if x := anatomy.Next32(c[0]); bits32(x) != bits32(c[1]) {
			t.Errorf("Next32(%g): %x", c[0], bits32(x))
		}
		if x := anatomy.Prev32(-c[0]); bits32(x) != bits32(-c[1]) {
			t.Errorf("Prev32(%g): %x", -c[0], bits32(x))
		}
	}
	for _, x := range nans32() {
		if bits32(anatomy.Next32(x)) != theNaN32 || bits32(anatomy.Prev32(x)) != theNaN32 {
			t.Errorf("neighbours of %x: %x, %x", bits32(x), bits32(anatomy.Next32(x)), bits32(anatomy.Prev32(x)))
		}
	}
	if anatomy.Prev32(1) != 1-0x1p-24 {
		t.Error("Prev32(1)")
	}
}

// P1.4, P1.8: the library's own neighbours have none between, and ours are the same bits.
func TestNeighbours(t *testing.T) {
	for _, x := range samples() {
		up, down := math.Nextafter(x, inf), math.Nextafter(x, -inf)
		if bits(anatomy.Next(x)) != bits(up) || bits(anatomy.Prev(x)) != bits(down) {
			t.Fatalf("neighbours of %x: %x, %x", bits(x), bits(anatomy.Next(x)), bits(anatomy.Prev(x)))
		}
		if x == 0 || math.IsInf(x, 0) {
			continue
		}
		if y := anatomy.Prev(up); up != 0 && bits(y) != bits(x) {
			t.Fatalf("Prev of Next of %x: %x", bits(x), bits(y))
		}
		if y := anatomy.Next(down); down != 0 && bits(y) != bits(x) {
			t.Fatalf("Next of Prev of %x: %x", bits(x), bits(y))
		}
	}
}

// P1.4, P1.8
func TestNeighbours32(t *testing.T) {
	for _, x := range samples32() {
		up, down := math.Nextafter32(x, inf32), math.Nextafter32(x, -inf32)
		if bits32(anatomy.Next32(x)) != bits32(up) || bits32(anatomy.Prev32(x)) != bits32(down) {
			t.Fatalf("neighbours of %x: %x, %x", bits32(x), bits32(anatomy.Next32(x)), bits32(anatomy.Prev32(x)))
		}
		if x == 0 || math.IsInf(float64(x), 0) {
			continue
		}
		if y := anatomy.Prev32(up); up != 0 && bits32(y) != bits32(x) {
			t.Fatalf("Prev32 of Next32 of %x: %x", bits32(x), bits32(y))
		}
		if y := anatomy.Next32(down); down != 0 && bits32(y) != bits32(x) {
			t.Fatalf("Next32 of Prev32 of %x: %x", bits32(x), bits32(y))
		}
	}
}

// P1.8: how many places of the total order lie from x to Next(x).
func TestNoNumberBetween(t *testing.T) {
	for _, x := range samples() {
		if x == inf {
			continue
		}
		want := int64(1)
		if bits(x) == bits(minusZero) {
			want = 2
		}
		if n := anatomy.Key(anatomy.Next(x)) - anatomy.Key(x); n != want {
			t.Fatalf("%d places from %x to the next", n, bits(x))
		}
	}
}

// P1.5
func TestUlp(t *testing.T) {
	for _, c := range [][2]float64{
		{1, 0x1p-52}, {-1, 0x1p-52}, {2 - 0x1p-52, 0x1p-52}, {0, least}, {minusZero, least}, {-least, least}, {0x1p-1022 - least, least}, {0x1p-1022, least}, {0x1p-1021, 2 * least},
		{0x1p-970, 0x1p-1022}, {math.MaxFloat64, 0x1p971}, {-math.MaxFloat64, 0x1p971}, {0x1p1023, 0x1p971}, {inf, inf}, {-inf, inf},
	} {
		if x := anatomy.Ulp(c[0]); bits(x) != bits(c[1]) {
			t.Errorf("Ulp(%g): %g", c[0], x)
		}
	}
	for _, x := range nans() {
		if bits(anatomy.Ulp(x)) != theNaN {
			t.Errorf("Ulp(%x): %x", bits(x), bits(anatomy.Ulp(x)))
		}
	}
	for _, x := range samples() {
		if m := math.Abs(x); m < math.MaxFloat64 && anatomy.Ulp(x) != math.Nextafter(m, inf)-m {
			t.Fatalf("Ulp(%x): %g", bits(x), anatomy.Ulp(x))
		}
	}
}

// P1.5
func TestUlp32(t *testing.T) {
	for _, c := range [][2]float32{
		{1, 0x1p-23}, {-1, 0x1p-23}, {2 - 0x1p-23, 0x1p-23}, {0, least32}, {minusZero32, least32}, {-least32, least32}, {0x1p-126 - least32, least32}, {0x1p-126, least32}, {0x1p-125, 2 * least32},
		{0x1p-103, 0x1p-126}, {math.MaxFloat32, 0x1p104}, {-math.MaxFloat32, 0x1p104}, {0x1p127, 0x1p104}, {inf32, inf32}, {-inf32, inf32},
	} {
		if x := anatomy.Ulp32(c[0]); bits32(x) != bits32(c[1]) {
			t.Errorf("Ulp32(%g): %g", c[0], x)
		}
	}
	for _, x := range nans32() {
		if bits32(anatomy.Ulp32(x)) != theNaN32 {
			t.Errorf("Ulp32(%x): %x", bits32(x), bits32(anatomy.Ulp32(x)))
		}
	}
	for _, x := range samples32() {
		m := float32(math.Abs(float64(x)))
		if m < math.MaxFloat32 && anatomy.Ulp32(x) != math.Nextafter32(m, inf32)-m {
			t.Fatalf("Ulp32(%x): %g", bits32(x), anatomy.Ulp32(x))
		}
	}
}
