package convert_test

import (
	"math"
	"math/big"
	"math/rand"
	"slices"
	"testing"

	"binnacle/anatomy"
	"binnacle/api"
	"binnacle/convert"
)

// two are the calls that take two singles.
var two = []struct {
	name   string
	call   func(a, b float32, mode int) (float32, int, api.Errno)
	wide   func(a, b float64) float64
	exact  func(z, a, b *big.Rat) *big.Rat
	turned func(a, b float32) (float32, float32)
}{
	{"Add", convert.Add, func(a, b float64) float64 { return a + b }, (*big.Rat).Add, func(a, b float32) (float32, float32) { return -a, -b }},
	{"Sub", convert.Sub, func(a, b float64) float64 { return a - b }, (*big.Rat).Sub, func(a, b float32) (float32, float32) { return -a, -b }},
	{"Mul", convert.Mul, func(a, b float64) float64 { return a * b }, (*big.Rat).Mul, func(a, b float32) (float32, float32) { return -a, b }},
	{"Div", convert.Div, func(a, b float64) float64 { return a / b }, (*big.Rat).Quo, func(a, b float32) (float32, float32) { return a, -b }},
}

func TestFigueroa(t *testing.T) {
	wrong := 0
	all := append(signs(edges32()), inf32, -inf32, float32(math.NaN()))
	list := pairs()
	for _, a := range all {
		list = append(list, pair{a, inf32}, pair{inf32, a}, pair{a, -inf32}, pair{a, float32(math.NaN())}, pair{float32(math.NaN()), a}, pair{a, 0}, pair{a, minusZero32})
	}
	for _, p := range list {
		for _, op := range two {
			want, _, _ := convert.Narrow(op.wide(float64(p.a), float64(p.b)), api.ModeNear)
			if f, _, _ := op.call(p.a, p.b, api.ModeNear); bits32(f) != bits32(want) {
				t.Errorf("%s(%x, %x): %x, not %x", op.name, p.a, p.b, f, want)
				few(t, &wrong)
			}
		}
		want, _, _ := convert.Narrow(math.Sqrt(float64(p.a)), api.ModeNear)
		if f, _, _ := convert.Root(p.a, api.ModeNear); bits32(f) != bits32(want) {
			t.Errorf("Root(%x): %x, not %x", p.a, f, want)
			few(t, &wrong)
		}
	}
}

// neighbours32 tells whether no single lies between two, noughts being one.
func neighbours32(lo, hi float32) bool {
	if lo == 0 {
		return hi == 0x1p-149
	}
	return anatomy.Next32(lo) == hi
}

func neighbours(lo, hi float64) bool {
	if lo == 0 {
		return hi == 0x1p-1074
	}
	return anatomy.Next(lo) == hi
}

// notAbove compares with infinities as well.
func notAbove(x float64, v *big.Rat) bool {
	if math.IsInf(x, 0) {
		return x < 0
	}
	return exactly(x).Cmp(v) <= 0
}

func notBelow(x float64, v *big.Rat) bool {
	if math.IsInf(x, 0) {
		return x > 0
	}
	return exactly(x).Cmp(v) >= 0
}

// between asks P2.11 of what the five modes gave of v.
func between(t *testing.T, what string, v *big.Rat, got [5]float64, flags [5]int, beside func(lo, hi float64) bool) {
	t.Helper()
	up, down := got[api.ModeUp], got[api.ModeDown]
	good := notAbove(down, v) && notBelow(up, v)
	for _, mode := range modes {
		good = good && (got[mode] == up || got[mode] == down)
		good = good && (flags[mode]&api.FlagInexact == 0) == (up == down)
	}
	if !good || up != down && !beside(down, up) {
		t.Errorf("%s: %x, flags %v", what, got, flags)
	}
}

func beside32(lo, hi float64) bool { return neighbours32(float32(lo), float32(hi)) }

func besideWhole(lo, hi float64) bool { return hi-lo == 1 }

func TestBetween(t *testing.T) {
	all := finite()
	for i, x := range all {
		v := exactly(x)
		var f, w, s [5]float64
		var kf, kw, ks [5]int
		shift := i%2300 - 1150
		for _, mode := range modes {
			y, k, _ := convert.Narrow(x, mode)
			f[mode], kf[mode] = float64(y), k
			w[mode], kw[mode], _ = convert.Whole(x, mode)
			s[mode], ks[mode], _ = convert.Scale(x, shift, mode)
		}
		between(t, "Narrow", v, f, kf, beside32)
		between(t, "Whole", v, w, kw, besideWhole)
		between(t, "Scale", new(big.Rat).Mul(v, power(shift)), s, ks, neighbours)
	}
	for _, n := range words() {
		v := new(big.Rat).SetInt(new(big.Int).SetUint64(n))
		m := new(big.Rat).SetInt64(int64(n))
		var u, i, f [5]float64
		var ku, ki, kf [5]int
		for _, mode := range modes {
			u[mode], ku[mode], _ = convert.FromUint(n, mode)
			i[mode], ki[mode], _ = convert.FromInt(int64(n), mode)
			y, k, _ := convert.NarrowInt(int64(n), mode)
			f[mode], kf[mode] = float64(y), k
		}
		between(t, "FromUint", v, u, ku, neighbours)
		between(t, "FromInt", m, i, ki, neighbours)
		between(t, "NarrowInt", m, f, kf, beside32)
	}
}

func TestBetweenOfIntegers(t *testing.T) {
	for _, x := range finite() {
		if math.Abs(x) > 0x1p31-2 {
			continue
		}
		var i, u [5]float64
		var ki, ku [5]int
		for _, mode := range modes {
			n, k, _ := convert.Int(x, 32, mode)
			i[mode], ki[mode] = float64(n), k
			m, k, _ := convert.Uint(x, 32, mode)
			u[mode], ku[mode] = float64(m), k
		}
		between(t, "Int", exactly(x), i, ki, besideWhole)
		if x >= 0 {
			between(t, "Uint", exactly(x), u, ku, besideWhole)
		}
	}
}

func TestBetweenOfArithmetic(t *testing.T) {
	list := pairs()
	for i := 0; i < len(list); i += 3 {
		a, b := list[i].a, list[i].b
		for _, op := range two {
			if op.name == "Div" && b == 0 {
				continue
			}
			var f [5]float64
			var k [5]int
			for _, mode := range modes {
				y, flags, _ := op.call(a, b, mode)
				f[mode], k[mode] = float64(y), flags
			}
			between(t, op.name, op.exact(new(big.Rat), ratOf(a), ratOf(b)), f, k, beside32)
		}
		var f [5]float64
		var k [5]int
		root := float32(math.Abs(float64(a)))
		for _, mode := range modes {
			y, flags, _ := convert.Root(root, mode)
			f[mode], k[mode] = float64(y), flags
		}
		between(t, "Root", rootStandIn(ratOf(root)), f, k, beside32)
	}
	all := triples()
	for i := 0; i < len(all); i += 3 {
		c := all[i]
		var f [5]float64
		var k [5]int
		for _, mode := range modes {
			y, flags, _ := convert.Fused(c.a, c.b, c.c, mode)
			f[mode], k[mode] = float64(y), flags
		}
		v := new(big.Rat).Mul(ratOf(c.a), ratOf(c.b))
		between(t, "Fused", v.Add(v, ratOf(c.c)), f, k, beside32)
	}
}

func TestTurned(t *testing.T) {
	for i, x := range finite() {
		for _, mode := range modes {
			back := opposite(mode)
			f, k, _ := convert.Narrow(x, mode)
			if got := told(convert.Narrow(-x, back)); !got.is(-f, k) {
				t.Errorf("Narrow(%x, %d): %+v", -x, back, got)
			}
			w, k, _ := convert.Whole(x, mode)
			if got := toldWide(convert.Whole(-x, back)); !got.is(-w, k) {
				t.Errorf("Whole(%x, %d): %+v", -x, back, got)
			}
			s, k, _ := convert.Scale(x, i%2300-1150, mode)
			if got := toldWide(convert.Scale(-x, i%2300-1150, back)); !got.is(-s, k) {
				t.Errorf("Scale(%x, %d, %d): %+v", -x, i%2300-1150, back, got)
			}
			if math.Abs(x) < 0x1p31-2 {
				n, k, _ := convert.Int(x, 32, mode)
				if m, l, err := convert.Int(-x, 32, back); m != -n || l != k || err != api.OK {
					t.Errorf("Int(%x, 32, %d): %d, %d", -x, back, m, l)
				}
			}
		}
	}
	for _, w := range words() {
		n := int64(w)
		if n == 0 || n == math.MinInt64 {
			continue
		}
		for _, mode := range modes {
			x, k, _ := convert.FromInt(n, mode)
			if got := toldWide(convert.FromInt(-n, opposite(mode))); !got.is(-x, k) {
				t.Errorf("FromInt(%d, %d): %+v", -n, opposite(mode), got)
			}
			f, k, _ := convert.NarrowInt(n, mode)
			if got := told(convert.NarrowInt(-n, opposite(mode))); !got.is(-f, k) {
				t.Errorf("NarrowInt(%d, %d): %+v", -n, opposite(mode), got)
			}
		}
	}
}

func TestTurnedArithmetic(t *testing.T) {
	for _, p := range pairs() {
		for _, op := range two {
			if p.b == 0 && op.name == "Div" {
				continue
			}
			if op.exact(new(big.Rat), ratOf(p.a), ratOf(p.b)).Sign() == 0 { // nothing is rounded
				continue
			}
			a, b := op.turned(p.a, p.b)
			for _, mode := range modes {
				f, k, _ := op.call(p.a, p.b, mode)
				if got := told(op.call(a, b, opposite(mode))); !got.is(-f, k) {
					t.Errorf("%s(%x, %x, %d): %+v", op.name, a, b, opposite(mode), got)
				}
			}
		}
	}
	for _, c := range triples() {
		if float64(c.a)*float64(c.b) == -float64(c.c) {
			continue
		}
		for _, mode := range modes {
			f, k, _ := convert.Fused(c.a, c.b, c.c, mode)
			if got := told(convert.Fused(-c.a, c.b, -c.c, opposite(mode))); !got.is(-f, k) {
				t.Errorf("Fused(%x, %x, %x, %d): %+v", -c.a, c.b, -c.c, opposite(mode), got)
			}
		}
	}
}

func TestRising(t *testing.T) {
	all := append(finite(), inf, -inf, 0, minusZero)
	slices.Sort(all)
	for _, mode := range modes {
		for i := range len(all) - 1 {
			x, y := all[i], all[i+1]
			f, _, _ := convert.Narrow(x, mode)
			g, _, _ := convert.Narrow(y, mode)
			a, _, _ := convert.Whole(x, mode)
			b, _, _ := convert.Whole(y, mode)
			if f > g || a > b {
				t.Errorf("of %x and %x, %d: Narrow %x, %x; Whole %x, %x", x, y, mode, f, g, a, b)
			}
			for _, width := range []int{8, 16, 32, 64} {
				m, _, _ := convert.Int(x, width, mode)
				n, _, _ := convert.Int(y, width, mode)
				u, _, _ := convert.Uint(x, width, mode)
				v, _, _ := convert.Uint(y, width, mode)
				if m > n || u > v {
					t.Errorf("of %x and %x, %d, %d: Int %d, %d; Uint %d, %d", x, y, width, mode, m, n, u, v)
				}
			}
			for _, k := range []int{-2000, -1070, -500, -3, 0, 7, 900, 2000} {
				a, _, _ := convert.Scale(x, k, mode)
				b, _, _ := convert.Scale(y, k, mode)
				if a > b {
					t.Errorf("Scale of %x and %x, %d, %d: %x, %x", x, y, k, mode, a, b)
				}
			}
		}
	}
}

func TestThereAndBack(t *testing.T) {
	back := func(f float32) {
		for _, mode := range modes {
			if got := told(convert.Narrow(convert.Widen(f), mode)); !got.is(anatomy.Canon32(f), 0) {
				t.Errorf("Narrow(Widen(%x), %d): %+v", bits32(f), mode, got)
			}
		}
		if !convert.Fits(convert.Widen(f)) {
			t.Errorf("Fits(Widen(%x))", bits32(f))
		}
	}
	// 65537 has no part in common with 2^32: all fields come by.
	for i := range uint32(1 << 17) {
		back(math.Float32frombits(i * 65537 * 3))
	}
	for _, f := range append(append(signs(edges32()), nans32()...), inf32, -inf32) {
		back(f)
	}
	for _, x := range append(finite(), append(nans(), inf, -inf)...) {
		f, _, _ := convert.Narrow(x, api.ModeNear)
		if convert.Fits(x) != anatomy.Same(convert.Widen(f), x) {
			t.Errorf("Fits(%x)", x)
		}
	}
	r := rand.New(rand.NewSource(9))
	whole := []int64{0, 1, 1 << 53, 1<<53 - 1}
	for range 20000 {
		whole = append(whole, r.Int63n(1<<53)>>r.Intn(53))
	}
	for _, w := range whole {
		for _, n := range []int64{w, -w} {
			for _, mode := range modes {
				x, k, err := convert.FromInt(n, mode)
				m, l, err2 := convert.Int(x, 64, mode)
				if m != n || k != 0 || l != 0 || err != api.OK || err2 != api.OK {
					t.Errorf("%d, %d: %x, %d, %d, %d", n, mode, x, k, m, l)
				}
			}
		}
	}
}

func TestSterbenz(t *testing.T) {
	r := rand.New(rand.NewSource(10))
	check := func(a, b float32) {
		for _, mode := range modes {
			if _, k, err := convert.Sub(a, b, mode); k != 0 || err != api.OK {
				t.Errorf("Sub(%x, %x, %d): %d, %d", a, b, mode, k, err)
			}
			if _, k, err := convert.Sub(-a, -b, mode); k != 0 || err != api.OK {
				t.Errorf("Sub(%x, %x, %d): %d, %d", -a, -b, mode, k, err)
			}
		}
	}
	list := edges32()
	for range 3000 {
		list = append(list, float32(math.Abs(float64(chance32(r, 0, 254)))))
	}
	for _, b := range list {
		twice := min(2*float64(b), math.MaxFloat32)
		low := convertUp(float64(b) / 2)
		check(low, b)
		check(b, b)
		check(float32(twice), b)
		for range 5 {
			check(min(low+float32(r.Float64()*(twice-float64(low))), float32(twice)), b)
		}
	}
}

// convertUp is the least single that isn't below x.
func convertUp(x float64) float32 {
	f := float32(x)
	if float64(f) < x {
		return math.Nextafter32(f, inf32)
	}
	return f
}
