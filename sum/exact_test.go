package sum_test

import (
	"math/big"
	"testing"

	"binnacle/api"
	"binnacle/sum"
)

// P5.5.
func TestExact(t *testing.T) {
	wrong := 0
	for _, l := range anyLists() {
		if got, want := told(sum.Exact(l)), exact(l); !got.is(want) || got.err != api.OK {
			t.Errorf("Exact of %d numbers %x: %x, not %x", len(l), brief(l), got, want)
			few(t, &wrong)
		}
	}
}

func TestExactNamed(t *testing.T) {
	for _, c := range []struct {
		l    []float64
		want float64
	}{
		{[]float64{1, 0x1p100, 1, -0x1p100}, 2}, {nil, 0}, {[]float64{}, 0}, {[]float64{1, -1}, 0}, {[]float64{-1, 1}, 0},
		{[]float64{minus}, minus}, {[]float64{minus, minus}, minus}, {[]float64{minus, 0}, 0}, {[]float64{0, minus}, 0}, {[]float64{minus, 1, -1}, 0}, {[]float64{minus, -least, least}, 0}, {repeat(4096, minus), minus},
		{[]float64{inf, 1}, inf}, {[]float64{1, -inf}, -inf}, {[]float64{inf, inf}, inf}, {[]float64{inf, -inf}, theNaN}, {[]float64{-inf, 1, inf}, theNaN}, {[]float64{inf, theNaN}, theNaN}, {[]float64{-most, -most, inf}, inf}, {[]float64{inf, -most, -most}, inf},
		{[]float64{1, 0x1p-53}, 1}, {[]float64{1 + 0x1p-52, 0x1p-53}, 1 + 0x1p-51}, {[]float64{1, 0x1p-53, least}, 1 + 0x1p-52}, {[]float64{1 + 0x1p-52, 0x1p-53, -least}, 1 + 0x1p-52}, {[]float64{-1, -0x1p-53}, -1}, {[]float64{-1, -0x1p-53, -least}, -1 - 0x1p-52},
		{[]float64{most, most, -most}, most}, {[]float64{most, most, -most, -most}, 0}, {[]float64{-most, -most, most, most, least}, least}, {[]float64{most, most}, inf}, {[]float64{-most, -most}, -inf},
		{[]float64{most, 0x1p970}, inf}, {[]float64{most, 0x1p970, -least}, most}, {[]float64{most, 0x1p969}, most}, {[]float64{-most, -0x1p970}, -inf}, {[]float64{most, 0x1p969, 0x1p969}, inf},
		{[]float64{least, least}, 0x1p-1073}, {[]float64{0x1p-1022, -least}, 0x1p-1022 - least}, {repeat(4096, most), inf}, {repeat(4096, 0x1p1000), 0x1p1012}, {repeat(4096, least), 0x1p-1062},
	} {
		if got := told(sum.Exact(c.l)); !got.is(said{c.want, api.OK}) {
			t.Errorf("Exact of %d numbers %x: %x, not %x", len(c.l), brief(c.l), got, c.want)
		}
	}
	for _, x := range wild()[2:] {
		for _, l := range [][]float64{{x}, {1, x}, {inf, x}, {x, -inf, 1}} {
			if got := told(sum.Exact(l)); !got.is(said{theNaN, api.OK}) {
				t.Errorf("Exact of the NaN: %x", got)
			}
		}
	}
}

// alone are the ways as functions of their own.
func alone() map[api.SumWay]func(l []float64) said {
	return map[api.SumWay]func(l []float64) said{
		api.WayLeft:     func(l []float64) said { var s steps; return said{canon(s.left(l)), api.OK} },
		api.WayPairs:    func(l []float64) said { var s steps; return said{canon(s.pairs(l)), api.OK} },
		api.WayKahan:    func(l []float64) said { var s steps; return said{canon(s.kahan(l)), api.OK} },
		api.WayNeumaier: func(l []float64) said { var s steps; return said{canon(s.neumaier(l)), api.OK} },
		api.WayExact:    exact,
	}
}

// P5.6: Sum is what the way answers, of a list that is too long for one of them too.
func TestSum(t *testing.T) {
	wrong := 0
	for way, add := range alone() {
		for _, l := range append(anyLists(), repeat(4097, 0.1), repeat(5000, inf)) {
			if got, want := told(sum.Sum(l, way)), add(l); !got.is(want) {
				t.Errorf("Sum of %d numbers %x by %d: %x, not %x", len(l), brief(l), way, got, want)
				few(t, &wrong)
			}
		}
	}
	// The numbers of the ways, as the chapter says them.
	l := []float64{3, 0x1p100, 1, -0x1p100, 1, 0x1p53, -0x1p53, 0x1p-60}
	for i, want := range []float64{sum.Left(l), sum.Pairs(l), sum.Kahan(l), sum.Neumaier(l)} {
		if got := told(sum.Sum(l, api.SumWay(i+1))); !got.is(said{want, api.OK}) {
			t.Errorf("Sum by %d: %x, not %x", i+1, got, want)
		}
	}
	if got := told(sum.Sum(l, 5)); !got.is(said{5, api.OK}) {
		t.Errorf("Sum by 5: %x", got)
	}
}

// P5.6: Off is the difference, exactly, in the one way to be written.
func TestOff(t *testing.T) {
	wrong := 0
	count := map[api.Errno]int{}
	for way, add := range alone() {
		for _, l := range lists() {
			s := add(l)
			d, err := sum.Off(l, way)
			count[err]++
			if !finite(s.x) {
				if err != api.ErrOver || d.Neg || d.Mag != nil || d.Exp != 0 {
					t.Errorf("Off of %d numbers %x by %d, which is %x: %v, %d", len(l), brief(l), way, s.x, d, err)
					few(t, &wrong)
				}
				continue
			}
			want := new(big.Int).Sub(units(s.x), total(l))
			if got, right := dyadUnits(d); err != api.OK || !right || got.Cmp(want) != 0 {
				t.Errorf("Off of %d numbers %x by %d: %v, %d", len(l), brief(l), way, d, err)
				few(t, &wrong)
			}
		}
	}
	if count[api.OK] < 1000 || count[api.ErrOver] < 100 {
		t.Errorf("too few of one kind: %v", count)
	}
}

func TestOffNamed(t *testing.T) {
	for _, c := range []struct {
		l    []float64
		way  api.SumWay
		want float64
	}{
		{[]float64{1, 0x1p100, 1, -0x1p100}, api.WayLeft, -2}, {[]float64{1, 0x1p100, 1, -0x1p100}, api.WayPairs, -2}, {[]float64{1, 0x1p100, 1, -0x1p100}, api.WayKahan, -2},
		{[]float64{1, 0x1p100, 1, -0x1p100}, api.WayNeumaier, 0}, {[]float64{1, 0x1p100, 1, -0x1p100}, api.WayExact, 0},
		{nil, api.WayLeft, 0}, {nil, api.WayExact, 0}, {[]float64{minus}, api.WayPairs, 0}, {[]float64{minus}, api.WayExact, 0},
		{[]float64{0x1p53, 1}, api.WayLeft, -1}, {[]float64{0x1p53 + 2, 1}, api.WayLeft, 1}, {[]float64{0x1p53, 1}, api.WayExact, -1}, {[]float64{1, least}, api.WayExact, -least}, {[]float64{-1, -least}, api.WayPairs, least},
		{[]float64{most, most, -most}, api.WayExact, 0}, {[]float64{most, -most, most}, api.WayPairs, 0},
	} {
		d, err := sum.Off(c.l, c.way)
		if got, right := dyadUnits(d); err != api.OK || !right || got.Cmp(units(c.want)) != 0 {
			t.Errorf("Off(%x, %d): %v, %d; not %x", c.l, c.way, d, err, c.want)
		}
	}
	if d, err := sum.Off([]float64{1, 0x1p100, 1, -0x1p100}, api.WayLeft); err != api.OK || !d.Neg || len(d.Mag) != 1 || d.Mag[0] != 1 || d.Exp != 1 {
		t.Errorf("Off that is -2: %v, %d", d, err)
	}
}
