package dyad_test

import (
	"math"
	"testing"

	"binnacle/api"
	"binnacle/dyad"
)

func TestNeg(t *testing.T) {
	for _, d := range dyads() {
		if got, want := told(dyad.Neg(d)), told(exactOf(d).neg().dyad()); !got.is(want) || got.err != api.OK {
			t.Errorf("Neg(%v): %v", brief(d), got.brief())
		}
	}
}

// pairsOf are dyads two by two; the long ones not all with each other.
func pairsOf(list []api.Dyad) [][2]api.Dyad {
	var out [][2]api.Dyad
	for i, a := range list {
		for j, b := range list {
			if small := len(a.Mag) < 30 && len(b.Mag) < 30; small && (i+j)%3 == 0 || !small && (i+j)%7 == 0 || i == j {
				out = append(out, [2]api.Dyad{a, b})
			}
		}
	}
	return out
}

func TestAddSubMulCompare(t *testing.T) {
	wrong := 0
	count := map[api.Errno]int{}
	for _, p := range pairsOf(dyads()) {
		a, b := p[0], p[1]
		x, y := exactOf(a), exactOf(b)
		for _, c := range []struct {
			name string
			got  said
			want said
		}{
			{"Add", told(dyad.Add(a, b)), told(x.add(y).dyad())},
			{"Sub", told(dyad.Sub(a, b)), told(x.sub(y).dyad())},
			{"Mul", told(dyad.Mul(a, b)), told(x.mul(y).dyad())},
		} {
			count[c.want.err]++
			if !c.got.is(c.want) || c.want.err != api.OK && !c.got.refused(c.want.err) {
				t.Errorf("%s(%v, %v): %v, not %v", c.name, brief(a), brief(b), c.got.brief(), c.want.brief())
				few(t, &wrong)
			}
		}
		if k, err := dyad.Compare(a, b); k != x.cmp(y) || err != api.OK {
			t.Errorf("Compare(%v, %v): %d, %d", brief(a), brief(b), k, err)
			few(t, &wrong)
		}
	}
	if count[api.OK] < 1000 || count[api.ErrLong] < 1000 {
		t.Errorf("too few of one kind: %v", count)
	}
}

func TestCarriesAndBorrows(t *testing.T) {
	one := api.Dyad{Mag: []uint32{1}}
	for _, n := range []int{1, 2, 3, 100, 2047, 2048} {
		full := api.Dyad{Mag: ones(n)}
		if got := told(dyad.Add(full, one)); !got.is(said{pow(32 * n), api.OK}) {
			t.Errorf("ones(%d) + 1: %v", n, got.brief())
		}
		if got := told(dyad.Sub(pow(32*n), one)); !got.is(said{full, api.OK}) {
			t.Errorf("2^%d - 1: %v", 32*n, got.brief())
		}
		if got := told(dyad.Sub(one, pow(32*n))); !got.is(said{api.Dyad{Neg: true, Mag: ones(n)}, api.OK}) {
			t.Errorf("1 - 2^%d: %v", 32*n, got.brief())
		}
		if got := told(dyad.Sub(full, full)); !got.refused(api.OK) {
			t.Errorf("ones(%d) less itself: %v", n, got.brief())
		}
	}
}

func TestAddAtTheLimits(t *testing.T) {
	long := func(bits int) said { return said{api.Dyad{Mag: ends(bits)}, api.OK} }
	refusal := said{api.Dyad{}, api.ErrLong}
	for i, c := range []struct{ got, want said }{
		{told(dyad.Add(pow(65535), pow(0))), long(65536)},
		{told(dyad.Add(pow(65536), pow(0))), refusal},
		{told(dyad.Sub(pow(65536), pow(0))), said{api.Dyad{Mag: ones(2048)}, api.OK}},
		{told(dyad.Sub(pow(0), pow(65537))), refusal},
		{told(dyad.Add(pow(100000), pow(100000))), refusal},
		{told(dyad.Sub(pow(100000), pow(100000))), said{}},
		{told(dyad.Add(pow(99999), pow(99999))), said{pow(100000), api.OK}},
		{told(dyad.Add(pow(100000), pow(-100000))), refusal},
		{told(dyad.Add(pow(-100000), pow(-100000))), said{pow(-99999), api.OK}},
		{told(dyad.Add(pow(-100000), api.Dyad{})), said{pow(-100000), api.OK}},
		{told(dyad.Add(api.Dyad{}, pow(100000))), said{pow(100000), api.OK}},
		{told(dyad.Sub(api.Dyad{}, pow(100000))), said{api.Dyad{Neg: true, Mag: []uint32{1}, Exp: 100000}, api.OK}},
		{told(dyad.Sub(api.Dyad{}, api.Dyad{})), said{}},
		{told(dyad.Add(api.Dyad{}, api.Dyad{})), said{}},
	} {
		if !c.got.is(c.want) {
			t.Errorf("case %d: %v, not %v", i, c.got.brief(), c.want.brief())
		}
	}
}

func TestMulAtTheLimits(t *testing.T) {
	refusal := said{api.Dyad{}, api.ErrLong}
	half := api.Dyad{Mag: ones(1024)}
	most := api.Dyad{Mag: ones(2048), Exp: 100000}
	for i, c := range []struct{ got, want said }{
		{told(dyad.Mul(pow(50000), pow(50000))), said{pow(100000), api.OK}},
		{told(dyad.Mul(pow(50000), pow(50001))), refusal},
		{told(dyad.Mul(pow(-50000), pow(-50000))), said{pow(-100000), api.OK}},
		{told(dyad.Mul(pow(-50000), pow(-50001))), refusal},
		{told(dyad.Mul(pow(100000), pow(-100000))), said{pow(0), api.OK}},
		{told(dyad.Mul(half, api.Dyad{Mag: ends(32769)})), said{api.Dyad{Mag: ones(2048)}, api.OK}},
		{told(dyad.Mul(half, api.Dyad{Mag: ends(32770)})), refusal}, // 65537 bits
		{told(dyad.Mul(most, most)), refusal},
		{told(dyad.Mul(most, api.Dyad{})), said{}},
		{told(dyad.Mul(api.Dyad{}, most)), said{}},
		{told(dyad.Mul(api.Dyad{Neg: true, Mag: []uint32{1}}, api.Dyad{})), said{}},
	} {
		if !c.got.is(c.want) {
			t.Errorf("case %d: %v, not %v", i, c.got.brief(), c.want.brief())
		}
	}
	want := told(exactOf(half).mul(exactOf(half)).dyad())
	if got := told(dyad.Mul(half, half)); !got.is(want) || len(got.d.Mag) != 2048 || got.err != api.OK {
		t.Errorf("ones(1024) squared: %v", got.brief())
	}
}

func TestShift(t *testing.T) {
	wrong := 0
	for _, d := range dyads() {
		for _, n := range []int{0, 1, -1, 31, 32, -32, 1000, -1000, 100000, 100001, -100000, -100001, 199999, 200000, 200001, -199999, -200000, -200001, 300000, -300000, math.MaxInt, math.MaxInt - 100000, math.MinInt, math.MinInt + 100000, math.MaxInt32, math.MinInt32} {
			x := exactOf(d)
			want := said{api.Dyad{}, api.ErrLong}
			switch {
			case x.sign() == 0:
				want.err = api.OK
			case n >= -200000 && n <= 200000:
				want = told(exact{x.m, x.e + n}.dyad())
			}
			if got := told(dyad.Shift(d, n)); !got.is(want) || got.err != api.OK && !got.refused(api.ErrLong) {
				t.Errorf("Shift(%v, %d): %v, not %v", brief(d), n, got.brief(), want.brief())
				few(t, &wrong)
			}
		}
	}
}

func TestArithmeticExamples(t *testing.T) {
	half, three, five, six := of(t, 0.5), of(t, 3), of(t, 5), of(t, 6)
	for name, c := range map[string]struct{ got, want said }{
		"0.5 + 6":          {told(dyad.Add(half, six)), said{api.Dyad{Mag: []uint32{13}, Exp: -1}, api.OK}},
		"3 * 5":            {told(dyad.Mul(three, five)), said{api.Dyad{Mag: []uint32{15}}, api.OK}},
		"6 - 6":            {told(dyad.Sub(six, six)), said{}},
		"Shift(1, 100001)": {told(dyad.Shift(pow(0), 100001)), said{api.Dyad{}, api.ErrLong}},
	} {
		if !c.got.is(c.want) {
			t.Errorf("%s: %v", name, c.got)
		}
	}
	if k, err := dyad.Compare(half, six); k != -1 || err != api.OK {
		t.Errorf("Compare(0.5, 6): %d, %d", k, err)
	}
}
