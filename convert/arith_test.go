package convert_test

import (
	"math"
	"math/big"
	"math/rand"
	"testing"

	"binnacle/api"
	"binnacle/convert"
)

type pair struct{ a, b float32 }

// pairs are finite singles two by two: all edges with each other, and what chance brings, near to one another too.
func pairs() []pair {
	var out []pair
	edges := signs(edges32())
	for _, a := range edges {
		for _, b := range edges {
			out = append(out, pair{a, b})
		}
	}
	r := rand.New(rand.NewSource(6))
	for range 4000 {
		a := chance32(r, 0, 254)
		field := int(bits32(a) >> 23 & 255)
		near := chance32(r, max(field-27, 0), min(field+27, 254))
		next := math.Float32frombits(bits32(a)&(1<<31-1) + uint32(r.Intn(5)))
		if next > math.MaxFloat32 {
			next = math.MaxFloat32
		}
		out = append(out, pair{a, near}, pair{a, -next}, pair{a, chance32(r, 0, 254)}, pair{a, chance32(r, max(0, 130-field), min(254, max(254-field, 4)))})
	}
	return out
}

// wantSum is what the chapter says of an exact sum v of finite numbers; sameNought tells that both of them are that nought.
func wantSum(v *big.Rat, sameNought bool, nought float32, mode int) (float32, int) {
	switch {
	case v.Sign() != 0:
		x, flags := rounded(v, single, mode)
		return float32(x), flags
	case sameNought:
		return nought, 0
	case mode == api.ModeDown:
		return minusZero32, 0
	}
	return 0, 0
}

func ratOf(f float32) *big.Rat { return exactly(float64(f)) }

func wantAdd(a, b float32, mode int) (float32, int) {
	return wantSum(new(big.Rat).Add(ratOf(a), ratOf(b)), a == 0 && bits32(a) == bits32(b), a, mode)
}

func TestAddAndSub(t *testing.T) {
	wrong := 0
	for _, p := range pairs() {
		for _, mode := range modes {
			want, flags := wantAdd(p.a, p.b, mode)
			if got := told(convert.Add(p.a, p.b, mode)); !got.is(want, flags) {
				t.Errorf("Add(%x, %x, %d): %+v, not %x, %d", p.a, p.b, mode, got, want, flags)
				few(t, &wrong)
			}
			want, flags = wantAdd(p.a, -p.b, mode)
			if got := told(convert.Sub(p.a, p.b, mode)); !got.is(want, flags) {
				t.Errorf("Sub(%x, %x, %d): %+v, not %x, %d", p.a, p.b, mode, got, want, flags)
				few(t, &wrong)
			}
		}
	}
}

func TestAddNoughts(t *testing.T) {
	for _, mode := range modes {
		var mixed float32
		if mode == api.ModeDown {
			mixed = minusZero32
		}
		for _, c := range []struct{ a, b, sum, difference float32 }{
			{0, 0, 0, mixed}, {minusZero32, minusZero32, minusZero32, mixed}, {0, minusZero32, mixed, 0}, {minusZero32, 0, mixed, minusZero32},
			{1, -1, mixed, 2}, {-math.MaxFloat32 / 2, math.MaxFloat32 / 2, mixed, -math.MaxFloat32}, {0x1p-149, -0x1p-149, mixed, 0x1p-148}, {1, 1, 2, mixed}, {-0x1p-149, -0x1p-149, -0x1p-148, mixed},
		} {
			if got := told(convert.Add(c.a, c.b, mode)); !got.is(c.sum, 0) {
				t.Errorf("Add(%v, %v, %d): %+v", c.a, c.b, mode, got)
			}
			if got := told(convert.Sub(c.a, c.b, mode)); !got.is(c.difference, 0) {
				t.Errorf("Sub(%v, %v, %d): %+v", c.a, c.b, mode, got)
			}
		}
	}
}

func TestAddInfinities(t *testing.T) {
	for _, mode := range modes {
		for _, f := range append(signs(edges32()), inf32) {
			for _, got := range []said{told(convert.Add(inf32, f, mode)), told(convert.Add(f, inf32, mode)), told(convert.Sub(inf32, -f, mode)), told(convert.Sub(f, -inf32, mode))} {
				if !got.is(inf32, 0) {
					t.Errorf("infinity and %v, %d: %+v", f, mode, got)
				}
			}
			for _, got := range []said{told(convert.Add(-inf32, -f, mode)), told(convert.Add(-f, -inf32, mode)), told(convert.Sub(-inf32, f, mode)), told(convert.Sub(-f, inf32, mode))} {
				if !got.is(-inf32, 0) {
					t.Errorf("-infinity and %v, %d: %+v", -f, mode, got)
				}
			}
		}
		for _, got := range []said{told(convert.Add(inf32, -inf32, mode)), told(convert.Add(-inf32, inf32, mode)), told(convert.Sub(inf32, inf32, mode)), told(convert.Sub(-inf32, -inf32, mode))} {
			if !got.isNaN(api.FlagInvalid) {
				t.Errorf("infinities of unlike signs, %d: %+v", mode, got)
			}
		}
	}
}

func unlike(a, b float32) bool { return math.Signbit(float64(a)) != math.Signbit(float64(b)) }

// signed gives an amount the sign of a product of a and b.
func signed(amount float32, a, b float32) float32 {
	if unlike(a, b) {
		return -amount
	}
	return amount
}

func TestMulAndDiv(t *testing.T) {
	wrong := 0
	for _, p := range pairs() {
		for _, mode := range modes {
			want, flags := signed(0, p.a, p.b), 0
			if v := new(big.Rat).Mul(ratOf(p.a), ratOf(p.b)); v.Sign() != 0 {
				x, k := rounded(v, single, mode)
				want, flags = float32(x), k
			}
			if got := told(convert.Mul(p.a, p.b, mode)); !got.is(want, flags) {
				t.Errorf("Mul(%x, %x, %d): %+v, not %x, %d", p.a, p.b, mode, got, want, flags)
				few(t, &wrong)
			}
			if p.b == 0 {
				continue
			}
			want, flags = signed(0, p.a, p.b), 0
			if p.a != 0 {
				x, k := rounded(new(big.Rat).Quo(ratOf(p.a), ratOf(p.b)), single, mode)
				want, flags = float32(x), k
			}
			if got := told(convert.Div(p.a, p.b, mode)); !got.is(want, flags) {
				t.Errorf("Div(%x, %x, %d): %+v, not %x, %d", p.a, p.b, mode, got, want, flags)
				few(t, &wrong)
			}
		}
	}
}

func TestMulAndDivOfNoughtsAndInfinities(t *testing.T) {
	noughts, infinities := []float32{0, minusZero32}, []float32{inf32, -inf32}
	for _, mode := range modes {
		for _, o := range noughts {
			for _, i := range infinities {
				if a, b := told(convert.Mul(o, i, mode)), told(convert.Mul(i, o, mode)); !a.isNaN(8) || !b.isNaN(8) {
					t.Errorf("Mul of %v and %v, %d: %+v, %+v", o, i, mode, a, b)
				}
				if got := told(convert.Div(o, i, mode)); !got.is(signed(0, o, i), 0) {
					t.Errorf("Div(%v, %v, %d): %+v", o, i, mode, got)
				}
				if got := told(convert.Div(i, o, mode)); !got.is(signed(inf32, o, i), 0) {
					t.Errorf("Div(%v, %v, %d): %+v", i, o, mode, got)
				}
			}
			for _, p := range noughts {
				if got := told(convert.Div(o, p, mode)); !got.isNaN(8) {
					t.Errorf("Div(%v, %v, %d): %+v", o, p, mode, got)
				}
			}
			for _, f := range signs(edges32())[2:] {
				if got := told(convert.Div(f, o, mode)); !got.is(signed(inf32, f, o), 16) {
					t.Errorf("Div(%v, %v, %d): %+v", f, o, mode, got)
				}
			}
		}
		for _, i := range infinities {
			for _, f := range signs(edges32())[2:] {
				if a, b := told(convert.Mul(i, f, mode)), told(convert.Mul(f, i, mode)); !a.is(signed(inf32, i, f), 0) || !b.is(signed(inf32, i, f), 0) {
					t.Errorf("Mul of %v and %v, %d: %+v, %+v", i, f, mode, a, b)
				}
				if a, b := told(convert.Div(i, f, mode)), told(convert.Div(f, i, mode)); !a.is(signed(inf32, i, f), 0) || !b.is(signed(0, i, f), 0) {
					t.Errorf("Div of %v and %v, %d: %+v, %+v", i, f, mode, a, b)
				}
			}
			for _, j := range infinities {
				if a, b := told(convert.Mul(i, j, mode)), told(convert.Div(i, j, mode)); !a.is(signed(inf32, i, j), 0) || !b.isNaN(8) {
					t.Errorf("Mul, Div of %v and %v, %d: %+v, %+v", i, j, mode, a, b)
				}
			}
		}
	}
}

func TestRoot(t *testing.T) {
	wrong := 0
	list := edges32()
	r := rand.New(rand.NewSource(7))
	for range 6000 {
		a := chance32(r, 0, 254)
		n := float32(1 + r.Intn(4096))
		list = append(list, float32(math.Abs(float64(a))), n*n, n*n*0x1p-148, math.Nextafter32(n*n, inf32))
	}
	exact := 0
	for _, a := range list {
		v := rootStandIn(ratOf(a))
		for _, mode := range modes {
			x, flags := rounded(v, single, mode)
			if flags == 0 {
				exact++
			}
			if got := told(convert.Root(a, mode)); !got.is(float32(x), flags) {
				t.Errorf("Root(%x, %d): %+v, not %x, %d", a, mode, got, x, flags)
				few(t, &wrong)
			}
			if got := told(convert.Root(-a, mode)); !got.isNaN(api.FlagInvalid) {
				t.Errorf("Root(%x, %d): %+v", -a, mode, got)
				few(t, &wrong)
			}
		}
	}
	if exact < 10000 {
		t.Error("too few roots that are singles:", exact)
	}
	for _, mode := range modes {
		for _, a := range []float32{0, minusZero32, inf32} {
			if got := told(convert.Root(a, mode)); !got.is(a, 0) {
				t.Errorf("Root(%v, %d): %+v", a, mode, got)
			}
		}
		if got := told(convert.Root(-inf32, mode)); !got.isNaN(api.FlagInvalid) {
			t.Errorf("Root(-infinity, %d): %+v", mode, got)
		}
	}
	if got := told(convert.Root(2, api.ModeDown)); !got.is(math.Float32frombits(0x3fb504f3), 1) {
		t.Error(got)
	}
}

type triple struct{ a, b, c float32 }

// triples are finite singles three by three; in many of them the product and c are near to each other, or very far.
func triples() []triple {
	var out []triple
	few := signs([]float32{0x1p-149, 3 * 0x1p-149, 0x1p-126, 0x1p-75, 1, math.Float32frombits(127<<23 + 1), 1 - 0x1p-24, 3, 0x1p63, 0x1.fffffep127})
	for _, a := range few {
		for _, b := range few {
			for _, c := range few {
				out = append(out, triple{a, b, c})
			}
		}
	}
	r := rand.New(rand.NewSource(8))
	for range 5000 {
		a, b := chance32(r, 0, 254), chance32(r, 40, 210)
		product := float64(a) * float64(b)
		c := float32(-product)
		switch {
		case math.IsInf(float64(c), 0):
			c = -math.MaxFloat32
		case r.Intn(3) == 0:
			c = math.Nextafter32(c, 0)
		}
		field := min(254, int(bits32(c)>>23&255))
		out = append(out, triple{a, b, c}, triple{a, b, -c}, triple{a, b, chance32(r, max(field-50, 0), min(field+50, 254))}, triple{a, b, chance32(r, 0, 254)})
	}
	return out
}

func TestFused(t *testing.T) {
	wrong := 0
	for _, c := range triples() {
		v := new(big.Rat).Mul(ratOf(c.a), ratOf(c.b))
		nought := signed(0, c.a, c.b)
		same := v.Sign() == 0 && bits32(nought) == bits32(c.c)
		v.Add(v, ratOf(c.c))
		for _, mode := range modes {
			want, flags := wantSum(v, same, nought, mode)
			if got := told(convert.Fused(c.a, c.b, c.c, mode)); !got.is(want, flags) {
				t.Errorf("Fused(%x, %x, %x, %d): %+v, not %x, %d", c.a, c.b, c.c, mode, got, want, flags)
				few(t, &wrong)
			}
		}
	}
}

func TestFusedExamples(t *testing.T) {
	a := math.Float32frombits(127<<23 + 1)
	for _, mode := range modes {
		if got := told(convert.Fused(a, a, -(1 + 0x1p-22), mode)); !got.is(0x1p-46, 0) {
			t.Error(mode, got)
		}
	}
	// Rounded once: the product alone would be rounded to what c takes away, or overflow.
	if got := told(convert.Fused(0x1p127, 2, -math.MaxFloat32, api.ModeNear)); !got.is(0x1p104, 0) {
		t.Error(got)
	}
	if got := told(convert.Fused(0x1p-149, 0x1p-149, 1, api.ModeUp)); !got.is(a, 1) {
		t.Error(got)
	}
	if got := told(convert.Fused(0x1p-149, 0x1p-149, -1, api.ModeUp)); !got.is(-(1 - 0x1p-24), 1) {
		t.Error(got)
	}
	if got := told(convert.Fused(0x1p-149, -0x1p-149, 0x1p-126, api.ModeZero)); !got.is(0x1p-126-0x1p-149, 3) {
		t.Error(got)
	}
	// A tie that is none, by a product far below it.
	if got := told(convert.Fused(0x1p-12, 0x1.000002p-12, 1, api.ModeNear)); !got.is(a, 1) {
		t.Error(got)
	}
}

func TestFusedNoughts(t *testing.T) {
	for _, mode := range modes {
		var mixed float32
		if mode == api.ModeDown {
			mixed = minusZero32
		}
		for _, c := range []struct{ a, b, c, want float32 }{
			{0, 5, 0, 0}, {0, -5, 0, mixed}, {0, -5, minusZero32, minusZero32}, {minusZero32, minusZero32, 0, 0}, {minusZero32, minusZero32, minusZero32, mixed}, {5, minusZero32, minusZero32, minusZero32},
			{2, 3, -6, mixed}, {-2, 3, 6, mixed}, {0x1p-149, 1, -0x1p-149, mixed}, {math.MaxFloat32, 1, -math.MaxFloat32, mixed},
		} {
			if got := told(convert.Fused(c.a, c.b, c.c, mode)); !got.is(c.want, 0) {
				t.Errorf("Fused(%v, %v, %v, %d): %+v", c.a, c.b, c.c, mode, got)
			}
		}
	}
}

func TestFusedInfinities(t *testing.T) {
	finite := signs([]float32{1, 0x1p-149, math.MaxFloat32})
	for _, mode := range modes {
		for _, i := range []float32{inf32, -inf32} {
			for _, o := range finite[:2] {
				for _, c := range append(finite, inf32, -inf32) {
					if a, b := told(convert.Fused(o, i, c, mode)), told(convert.Fused(i, o, c, mode)); !a.isNaN(8) || !b.isNaN(8) {
						t.Errorf("Fused of %v, %v and %v, %d: %+v, %+v", o, i, c, mode, a, b)
					}
				}
			}
			for _, f := range append(finite[2:], inf32, -inf32) {
				product := signed(inf32, f, i)
				for _, c := range append(finite, product) {
					if a, b := told(convert.Fused(f, i, c, mode)), told(convert.Fused(i, f, c, mode)); !a.is(product, 0) || !b.is(product, 0) {
						t.Errorf("Fused of %v, %v and %v, %d: %+v, %+v", f, i, c, mode, a, b)
					}
				}
				if got := told(convert.Fused(f, i, -product, mode)); !got.isNaN(8) {
					t.Errorf("Fused(%v, %v, %v, %d): %+v", f, i, -product, mode, got)
				}
			}
			for _, a := range finite {
				for _, b := range finite {
					if got := told(convert.Fused(a, b, i, mode)); !got.is(i, 0) {
						t.Errorf("Fused(%v, %v, %v, %d): %+v", a, b, i, mode, got)
					}
				}
			}
		}
	}
}

func TestArithmeticOfNaNs(t *testing.T) {
	others := append(signs([]float32{1, math.MaxFloat32}), inf32, -inf32, math.Float32frombits(0xffc12345))
	for _, n := range nans32() {
		for _, mode := range modes {
			if got := told(convert.Root(n, mode)); !got.isNaN(0) {
				t.Errorf("Root(%x, %d): %+v", bits32(n), mode, got)
			}
			for _, f := range others {
				for _, got := range []said{
					told(convert.Add(n, f, mode)), told(convert.Add(f, n, mode)), told(convert.Sub(n, f, mode)), told(convert.Sub(f, n, mode)),
					told(convert.Mul(n, f, mode)), told(convert.Mul(f, n, mode)), told(convert.Div(n, f, mode)), told(convert.Div(f, n, mode)),
				} {
					if !got.isNaN(0) {
						t.Errorf("of %x and %v, %d: %+v", bits32(n), f, mode, got)
					}
				}
				for _, g := range others {
					for _, got := range []said{told(convert.Fused(n, f, g, mode)), told(convert.Fused(f, n, g, mode)), told(convert.Fused(f, g, n, mode))} {
						if !got.isNaN(0) {
							t.Errorf("Fused of %x, %v and %v, %d: %+v", bits32(n), f, g, mode, got)
						}
					}
				}
			}
		}
	}
}

func TestArithmeticExamples(t *testing.T) {
	if got := told(convert.Add(1, -1, api.ModeDown)); !got.is(minusZero32, 0) {
		t.Error(got)
	}
	for _, mode := range modes {
		if got := told(convert.Div(1, minusZero32, mode)); !got.is(-inf32, 16) {
			t.Error(got)
		}
		if got := told(convert.Root(minusZero32, mode)); !got.is(minusZero32, 0) {
			t.Error(got)
		}
		if got := told(convert.Mul(0, inf32, mode)); !got.isNaN(8) {
			t.Error(got)
		}
	}
}
