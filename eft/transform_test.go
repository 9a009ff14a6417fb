package eft_test

import (
	"math"
	"math/big"
	"testing"

	"binnacle/eft"
)

// P4.1, P4.2: step by step, for any numbers.
func TestTransformationsStepByStep(t *testing.T) {
	wrong := 0
	for _, p := range anyPairs() {
		a, b := p[0], p[1]
		var s steps
		for _, c := range []struct {
			name      string
			got, want [2]float64
		}{
			{"Two", pair(eft.Two(a, b)), said(s.two(a, b))},
			{"Quick", pair(eft.Quick(a, b)), said(s.quick(a, b))},
			{"Split", pair(eft.Split(a)), said(s.split(a))},
			{"Prod", pair(eft.Prod(a, b)), said(s.prod(a, b))},
			{"Fused", pair(eft.Fused(a, b)), said(a*b, lost(a, b, a*b))},
		} {
			if !samePair(c.got, c.want) {
				t.Errorf("%s(%x, %x): %x, not %x", c.name, a, b, c.got, c.want)
				few(t, &wrong)
			}
		}
	}
}

func TestTransformationsNamed(t *testing.T) {
	n := theNaN
	for _, c := range []struct {
		name      string
		got, want [2]float64
	}{
		{"Two(1, 2^-60)", pair(eft.Two(1, 0x1p-60)), pair(1, 0x1p-60)},
		{"Two(2^53, 1)", pair(eft.Two(1<<53, 1)), pair(1<<53, 1)},
		{"Two(1, 2^60)", pair(eft.Two(1, 1<<60)), pair(1<<60, 1)},
		{"Two(-0, -0)", pair(eft.Two(minus, minus)), pair(minus, 0)},
		{"Two(0, -0)", pair(eft.Two(0, minus)), pair(0, 0)},
		{"Two(1, -1)", pair(eft.Two(1, -1)), pair(0, 0)},
		{"Two(2^1022, 2^1022)", pair(eft.Two(0x1p1022, 0x1p1022)), pair(0x1p1023, 0)},
		{"Two(2^1022, -2^-1074)", pair(eft.Two(0x1p1022, -0x1p-1074)), pair(0x1p1022, -0x1p-1074)},
		{"Two(most, most)", pair(eft.Two(most, most)), pair(inf, n)},
		{"Two(most, 2^970)", pair(eft.Two(most, 0x1p970)), pair(inf, n)},
		{"Two(most, 2^969)", pair(eft.Two(most, 0x1p969)), pair(most, 0x1p969)},
		{"Two(inf, 1)", pair(eft.Two(inf, 1)), pair(inf, n)},
		{"Two(1, -inf)", pair(eft.Two(1, -inf)), pair(-inf, n)},
		{"Two(inf, -inf)", pair(eft.Two(inf, -inf)), pair(n, n)},
		{"Two(NaN, 1)", pair(eft.Two(math.NaN(), 1)), pair(n, n)},
		{"Quick(1, 2^60)", pair(eft.Quick(1, 1<<60)), pair(1<<60, 0)},
		{"Quick(2^60, 1)", pair(eft.Quick(1<<60, 1)), pair(1<<60, 1)},
		{"Quick(0, 3)", pair(eft.Quick(0, 3)), pair(3, 0)},
		{"Quick(0, -0)", pair(eft.Quick(0, minus)), pair(0, minus)},
		{"Quick(inf, 1)", pair(eft.Quick(inf, 1)), pair(inf, n)},
		{"Quick(1, inf)", pair(eft.Quick(1, inf)), pair(inf, n)},
		{"Quick(most, most)", pair(eft.Quick(most, most)), pair(inf, -inf)},
		{"Split(2^27 + 1)", pair(eft.Split(1<<27 + 1)), pair(1<<27, 1)},
		{"Split(-0)", pair(eft.Split(minus)), pair(minus, 0)},
		{"Split(2^995)", pair(eft.Split(0x1p995)), pair(0x1p995, 0)},
		{"Split(2^997)", pair(eft.Split(0x1p997)), pair(n, n)},
		{"Split(inf)", pair(eft.Split(inf)), pair(n, n)},
		{"Split(2^-1074)", pair(eft.Split(0x1p-1074)), pair(0x1p-1074, 0)},
		{"Prod(2^27 + 1, 2^27 + 1)", pair(eft.Prod(1<<27+1, 1<<27+1)), pair(1<<54+1<<28, 1)},
		{"Prod(2^-600, 2^-600)", pair(eft.Prod(0x1p-600, 0x1p-600)), pair(0, 0)},
		{"Prod(2^997, 1)", pair(eft.Prod(0x1p997, 1)), pair(0x1p997, n)},
		{"Prod(inf, 0)", pair(eft.Prod(inf, 0)), pair(n, n)},
		{"Prod(inf, 2)", pair(eft.Prod(inf, 2)), pair(inf, n)},
		{"Fused(2^27 + 1, 2^27 + 1)", pair(eft.Fused(1<<27+1, 1<<27+1)), pair(1<<54+1<<28, 1)},
		{"Fused(2^-600, 2^-600)", pair(eft.Fused(0x1p-600, 0x1p-600)), pair(0, 0)},
		{"Fused(-2^-600, 2^-600)", pair(eft.Fused(-0x1p-600, 0x1p-600)), pair(minus, minus)},
		{"Fused(-0, 1)", pair(eft.Fused(minus, 1)), pair(minus, 0)},
		{"Fused(0, 1)", pair(eft.Fused(0, 1)), pair(0, 0)},
		{"Fused(2, 3)", pair(eft.Fused(2, 3)), pair(6, 0)},
		{"Fused(most, 2)", pair(eft.Fused(most, 2)), pair(inf, n)},
		{"Fused(most, -2)", pair(eft.Fused(most, -2)), pair(-inf, n)},
		{"Fused(inf, 0)", pair(eft.Fused(inf, 0)), pair(n, n)},
		{"Fused(1, -inf)", pair(eft.Fused(1, -inf)), pair(-inf, n)},
		{"Fused(2^997, 1 + 2^-52)", pair(eft.Fused(0x1p997, 1+0x1p-52)), pair(0x1.0000000000001p997, 0)},
		{"Fused(3 * 2^-538, 2^-537)", pair(eft.Fused(0x3p-538, 0x1p-537)), pair(0x1p-1073, minus)},                                     // 3/2 of the least: the half that is lacking
		{"Fused(5 * 2^-538, 2^-537)", pair(eft.Fused(0x5p-538, 0x1p-537)), pair(0x1p-1073, 0)},                                         // the half that is too much
		{"Fused(-7 * 2^-538, 3 * 2^-537)", pair(eft.Fused(-0x7p-538, 0x3p-537)), pair(-0x5p-1073, minus)},                              // -10.5 of them: a tie, to the even one
		{"Fused(1 + 2^-52, 2^-1022)", pair(eft.Fused(1+0x1p-52, 0x1p-1022)), pair(0x1.0000000000001p-1022, 0)},                         // nothing is lost
		{"Fused(1 + 2^-52, 2^-1022 + 2^-1074)", pair(eft.Fused(1+0x1p-52, 0x1.0000000000001p-1022)), pair(0x1.0000000000002p-1022, 0)}, // 2^-1126 is
		{"Fused(1 - 2^-53, -2^-1022)", pair(eft.Fused(1-0x1p-53, -0x1p-1022)), pair(-0x1p-1022, 0)},                                    // half of the least: to the even one
	} {
		if !samePair(c.got, c.want) {
			t.Errorf("%s: %x, not %x", c.name, c.got, c.want)
		}
	}
}

// P4.8: nothing is lost in sums.
func TestSumsLoseNothing(t *testing.T) {
	wrong, quick := 0, 0
	for _, p := range pairs() {
		a, b := p[0], p[1]
		if math.Abs(a) > 0x1p1022 || math.Abs(b) > 0x1p1022 {
			continue
		}
		s, e := eft.Two(a, b)
		if !same(s, a+b) || total(s, e).Cmp(total(a, b)) != 0 {
			t.Errorf("Two(%x, %x): %x, %x", a, b, s, e)
			few(t, &wrong)
		}
		if a != 0 && math.Abs(a) < math.Abs(b) {
			continue
		}
		quick++
		if got := pair(eft.Quick(a, b)); !alikeButNoughts(got, pair(s, e)) || !same(got[0], a+b) || total(got[:]...).Cmp(total(a, b)) != 0 {
			t.Errorf("Quick(%x, %x): %x, not %x", a, b, got, pair(s, e))
			few(t, &wrong)
		}
	}
	if quick < 10000 {
		t.Errorf("only %d times Quick", quick)
	}
}

// P4.9: both halves, exactly.
func TestSplitLosesNothing(t *testing.T) {
	wrong := 0
	for _, p := range pairs() {
		a := p[0]
		if math.Abs(a) > 0x1p995 {
			continue
		}
		h, l := eft.Split(a)
		good := total(h, l).Cmp(units(a)) == 0
		for _, x := range []float64{h, l} {
			if x == 0 {
				continue
			}
			good = good && lastDigit(x).Cmp(lastDigit(a)) >= 0
			m := new(big.Int).Quo(units(x), lastDigit(x))
			good = good && m.CmpAbs(big.NewInt(1<<26)) <= 0
		}
		if !good {
			t.Errorf("Split(%x): %x, %x", a, h, l)
			few(t, &wrong)
		}
	}
}

// P4.10: nothing is lost in products.
func TestProductsLoseNothing(t *testing.T) {
	wrong, reckoned := 0, 0
	limit := finer(units(0x1p1021))
	for _, p := range pairs() {
		a, b := p[0], p[1]
		n := product(a, b)
		if math.Abs(a) > 0x1p995 || math.Abs(b) > 0x1p995 || n.CmpAbs(limit) > 0 || !holds(n) {
			continue
		}
		reckoned++
		prod, fused := pair(eft.Prod(a, b)), pair(eft.Fused(a, b))
		if finer(total(prod[:]...)).Cmp(n) != 0 || finer(total(fused[:]...)).Cmp(n) != 0 || !alikeButNoughts(prod, fused) || !same(prod[0], a*b) {
			t.Errorf("%x * %x: Prod %x, Fused %x", a, b, prod, fused)
			few(t, &wrong)
		}
	}
	if reckoned < 20000 {
		t.Errorf("only %d products", reckoned)
	}
}
