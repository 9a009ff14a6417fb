package sum_test

import (
	"testing"

	"binnacle/api"
	"binnacle/sum"
)

// P5.7: Dot step by step.
func TestDot(t *testing.T) {
	wrong := 0
	for _, p := range pairsOf(anyLists()) {
		a, b := p[0], p[1]
		var s steps
		if got, want := told(sum.Dot(a, b)), (said{canon(s.dot(a, b)), api.OK}); !got.is(want) {
			t.Errorf("Dot of %d pairs %x, %x: %x, not %x", len(a), brief(a), brief(b), got, want)
			few(t, &wrong)
		}
	}
}

func TestDotNamed(t *testing.T) {
	for _, c := range []struct {
		a, b []float64
		want float64
	}{
		{[]float64{1, 2}, []float64{3, 4}, 11}, {nil, nil, 0}, {nil, []float64{}, 0}, {[]float64{minus}, []float64{1}, 0},
		{[]float64{-1, 1 + 0x1p-30}, []float64{1 + 0x1p-29, 1 + 0x1p-30}, 0}, // joined into one rounding it were 2^-60
		{[]float64{inf}, []float64{0}, theNaN}, {[]float64{inf}, []float64{-2}, -inf}, {[]float64{inf, inf}, []float64{1, -1}, theNaN}, {[]float64{most, -most}, []float64{2, 2}, theNaN}, {[]float64{most}, []float64{-2}, -inf},
		{[]float64{least, 1}, []float64{0.5, 0}, 0}, {[]float64{0x3p-1074}, []float64{0.5}, 0x2p-1074},
		{repeat(4097, 1), repeat(4097, 2), 8194},
	} {
		if got := told(sum.Dot(c.a, c.b)); !got.is(said{c.want, api.OK}) {
			t.Errorf("Dot(%x, %x): %x, not %x", brief(c.a), brief(c.b), got, c.want)
		}
	}
}

// P5.7: DotExact.
func TestDotExact(t *testing.T) {
	wrong := 0
	for _, p := range pairsOf(anyLists()) {
		a, b := p[0], p[1]
		if got, want := told(sum.DotExact(a, b)), dotExact(a, b); !got.is(want) || got.err != api.OK {
			t.Errorf("DotExact of %d pairs %x, %x: %x, not %x", len(a), brief(a), brief(b), got, want)
			few(t, &wrong)
		}
	}
}

func TestDotExactNamed(t *testing.T) {
	for _, c := range []struct {
		a, b []float64
		want float64
	}{
		{[]float64{1, 2}, []float64{3, 4}, 11}, {nil, nil, 0}, {[]float64{}, nil, 0},
		{[]float64{0x1p600, 1, -0x1p600}, []float64{0x1p400, 1, 0x1p400}, 1},
		{[]float64{0x1p600, 1, -0x1p600}, []float64{0x1p600, 1, 0x1p600}, 1}, {[]float64{most, most, least}, []float64{most, -most, 1}, least}, {[]float64{0x1p1000, 0x1p1000}, []float64{0x1p1000, -0x1p1000}, 0}, {[]float64{0x1p1000}, []float64{0x1p1000}, inf},
		{[]float64{-1, 1 + 0x1p-30}, []float64{1 + 0x1p-29, 1 + 0x1p-30}, 0x1p-60},
		// An exact 0 is +0, whatever the products' signs are; what is rounded to 0 keeps its own.
		{[]float64{minus}, []float64{1}, 0}, {[]float64{minus, minus}, []float64{1, 1}, 0}, {[]float64{1, 1}, []float64{1, -1}, 0}, {[]float64{least}, []float64{-least}, minus}, {[]float64{least}, []float64{least}, 0}, {[]float64{-least}, []float64{0.5}, minus}, {[]float64{least, least}, []float64{0.5, 0.5}, least}, {[]float64{0x3p-1074}, []float64{0.5}, 0x2p-1074}, {[]float64{least, least}, []float64{0.5, least}, least},
		{[]float64{inf}, []float64{2}, inf}, {[]float64{2}, []float64{-inf}, -inf}, {[]float64{-inf}, []float64{-inf}, inf}, {[]float64{inf}, []float64{0}, theNaN}, {[]float64{minus}, []float64{-inf}, theNaN}, {[]float64{inf, 1}, []float64{1, -inf}, theNaN}, {[]float64{inf, -inf}, []float64{1, -1}, inf}, {[]float64{inf}, []float64{least}, inf},
		{[]float64{theNaN}, []float64{0}, theNaN}, {[]float64{1, 0}, []float64{inf, theNaN}, theNaN}, {[]float64{inf, inf}, []float64{1, 0}, theNaN},
		// Finite products that no number holds are no infinities.
		{[]float64{inf, 0x1p1000}, []float64{1, -0x1p1000}, inf}, {[]float64{-0x1p1000, inf}, []float64{0x1p1000, 1}, inf}, {[]float64{most, most, -inf}, []float64{most, most, 1}, -inf},
		{[]float64{1, 0x1p-53}, []float64{1, 1}, 1}, {[]float64{1, 0x1p-53, least}, []float64{1, 1, least}, 1 + 0x1p-52}, {[]float64{1 + 0x1p-52, 0x1p-53}, []float64{1, 1}, 1 + 0x1p-51},
		{repeat(4096, 0x1p1000), repeat(4096, 0x1p-1000), 4096}, {repeat(4096, most), repeat(4096, -most), -inf}, {repeat(4096, minus), repeat(4096, 1), 0},
	} {
		if got := told(sum.DotExact(c.a, c.b)); !got.is(said{c.want, api.OK}) {
			t.Errorf("DotExact(%x, %x): %x, not %x", brief(c.a), brief(c.b), got, c.want)
		}
	}
	for _, x := range wild()[2:] {
		for i, got := range []said{told(sum.Dot([]float64{x}, []float64{0})), told(sum.Dot([]float64{1, 2}, []float64{1, x})), told(sum.DotExact([]float64{x}, []float64{0})), told(sum.DotExact([]float64{1, inf}, []float64{x, 1})), told(sum.DotExact([]float64{most, 2}, []float64{most, x}))} {
			if !got.is(said{theNaN, api.OK}) {
				t.Errorf("call %d of a NaN: %x", i, got)
			}
		}
	}
}
