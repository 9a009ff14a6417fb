package eft_test

import (
	"math"
	"math/big"
	"math/rand"
	"testing"

	"binnacle/anatomy"
	"binnacle/api"
	"binnacle/eft"
)

// P4.3: what an expansion is.
func TestIs(t *testing.T) {
	for _, e := range expansions() {
		if !eft.Is(e) || whyNot(e) != api.OK {
			t.Errorf("Is(%x): false", e)
		}
	}
	for _, e := range noExpansions() {
		if eft.Is(e) || whyNot(e) != api.ErrExpansion {
			t.Errorf("Is(%x): true", e)
		}
	}
	for _, e := range [][]float64{powers(65, 2, 0), {inf}, {-inf}, {math.NaN()}, {1, inf}, {1, math.NaN()}, {1, 2, -inf}, powers(4096, 0, 0)} {
		if eft.Is(e) {
			t.Errorf("Is of %d numbers from %x on: true", len(e), e[0])
		}
	}
}

// Each number is held against the next one's last digit: by one digit it is an expansion or none.
func TestIsByOneDigit(t *testing.T) {
	r := rand.New(rand.NewSource(3))
	wrong := 0
	for range 5000 {
		exp := r.Intn(1900) - 1070
		next := digits(r, 1+r.Intn(53), exp)
		digit, _ := new(big.Float).SetMantExp(new(big.Float).SetInt(lastDigit(next)), -1074).Float64()
		for _, x := range []float64{digit, math.Nextafter(digit, most), math.Nextafter(digit, 0), digit / 2, digit * 2} {
			for _, e := range [][]float64{{x, next}, {-x, next}, {x, -next}} {
				if x != 0 && eft.Is(e) != (math.Abs(x) < digit) {
					t.Errorf("Is(%x): %v", e, eft.Is(e))
					few(t, &wrong)
				}
			}
		}
	}
}

// stand tells whether an answer is an expansion, and its sum a number of units of 2^-1074.
func stand(l []float64, sum *big.Int) bool {
	return whyNot(l) == api.OK && eft.Is(l) && total(l...).Cmp(sum) == 0
}

// P4.3, P4.11: Grow.
func TestGrow(t *testing.T) {
	r := rand.New(rand.NewSource(4))
	wrong, seen := 0, map[api.Errno]int{}
	for _, e := range append(expansions(), noExpansions()...) {
		for _, b := range others(r, e) {
			got, want := list(eft.Grow(e, b)), grown(e, b)
			seen[got.err]++
			if !got.is(want) || got.err == api.OK && !stand(got.l, total(append([]float64{b}, e...)...)) {
				t.Errorf("Grow(%x, %x): %x, not %x", e, b, got, want)
				few(t, &wrong)
			}
		}
	}
	for _, err := range []api.Errno{api.OK, api.ErrOver, api.ErrLong, api.ErrExpansion} {
		if seen[err] < 20 {
			t.Errorf("error %d came only %d times", err, seen[err])
		}
	}
}

// P4.3, P4.11: Add.
func TestAdd(t *testing.T) {
	r := rand.New(rand.NewSource(5))
	wrong, seen := 0, map[api.Errno]int{}
	all := append(expansions(), noExpansions()...)
	for _, e := range all {
		fs := [][]float64{nil, e, negated(e), {1, 0x1p70}}
		for range 12 {
			fs = append(fs, all[r.Intn(len(all))])
		}
		for _, f := range fs {
			got, want := list(eft.Add(e, f)), added(e, f)
			seen[got.err]++
			if !got.is(want) || got.err == api.OK && !stand(got.l, new(big.Int).Add(total(e...), total(f...))) {
				t.Errorf("Add(%x, %x): %x, not %x", e, f, got, want)
				few(t, &wrong)
			}
		}
	}
	for _, err := range []api.Errno{api.OK, api.ErrOver, api.ErrLong, api.ErrExpansion} {
		if seen[err] < 20 {
			t.Errorf("error %d came only %d times", err, seen[err])
		}
	}
}

func negated(e []float64) []float64 {
	out := make([]float64, len(e))
	for i, x := range e {
		out[i] = -x
	}
	return out
}

// An expansion whose sum with another is 0 leaves nothing.
func TestAddToNothing(t *testing.T) {
	for _, e := range expansions() {
		if len(e) > 0 && math.Abs(e[len(e)-1]) > 0x1p1022 {
			continue
		}
		if got := list(eft.Add(e, negated(e))); got.err == api.OK && len(got.l) != 0 {
			t.Errorf("%x less itself: %x", e, got.l)
		}
		if got := list(eft.Add(e, nil)); !got.is(listed{e, api.OK}) {
			t.Errorf("%x and nothing: %x", e, got)
		}
	}
}

// P4.4, P4.11: Scale.
func TestScale(t *testing.T) {
	r := rand.New(rand.NewSource(6))
	wrong, seen := 0, map[api.Errno]int{}
	for _, e := range append(expansions(), noExpansions()...) {
		for _, b := range others(r, e) {
			got, want := list(eft.Scale(e, b)), scaled(e, b)
			seen[got.err]++
			if !got.is(want) {
				t.Errorf("Scale(%x, %x): %x, not %x", e, b, got, want)
				few(t, &wrong)
			}
			if got.err != api.OK {
				continue
			}
			n := new(big.Int).Mul(total(e...), units(b))
			if !holds(n) || !stand(got.l, n.Rsh(n, 1074)) {
				t.Errorf("Scale(%x, %x): %x is not the product", e, b, got)
				few(t, &wrong)
			}
		}
	}
	for _, err := range []api.Errno{api.OK, api.ErrOver, api.ErrLong, api.ErrExpansion, api.ErrLost} {
		if seen[err] < 20 {
			t.Errorf("error %d came only %d times", err, seen[err])
		}
	}
}

// Products at the last digit that numbers have, and one digit below it.
func TestScaleAtTheLastDigit(t *testing.T) {
	for _, c := range []struct {
		e    []float64
		b    float64
		want listed
	}{
		{[]float64{0x1p-1074}, 1, listed{[]float64{0x1p-1074}, api.OK}},
		{[]float64{0x1p-1074}, -3, listed{[]float64{-0x3p-1074}, api.OK}},
		{[]float64{0x1p-1073}, 0.5, listed{[]float64{0x1p-1074}, api.OK}},
		{[]float64{0x1p-1074}, 0.5, listed{nil, api.ErrLost}},
		{[]float64{0x1p-1074}, 1.5, listed{nil, api.ErrLost}},
		{[]float64{0x1p-1074}, 1.25, listed{nil, api.ErrLost}}, // it isn't rounded to 0, but rounded
		{[]float64{0x1p-1073, 1}, 0.25, listed{nil, api.ErrLost}},
		{[]float64{1, 0x1p60}, 0x1p-1074, listed{[]float64{0x1p-1074, 0x1p-1014}, api.OK}},
		{[]float64{0.5, 0x1p60}, 0x1p-1074, listed{nil, api.ErrLost}},
		{[]float64{0x1p-537}, 0x1p-537, listed{[]float64{0x1p-1074}, api.OK}},
		{[]float64{0x1p-537}, 0x1p-538, listed{nil, api.ErrLost}},
		{[]float64{1 + 0x1p-52}, 0x1p-1022, listed{[]float64{0x1.0000000000001p-1022}, api.OK}},
		{[]float64{1 + 0x1p-52}, 0x1p-1023, listed{nil, api.ErrLost}},
		{[]float64{1 + 0x1p-52}, 0x1.0000000000001p-970, listed{[]float64{0x1p-1074, 0x1.0000000000002p-970}, api.OK}},
		{[]float64{1 + 0x1p-52}, 0x1.0000000000001p-971, listed{nil, api.ErrLost}},
		{[]float64{0x1p-1074}, 0, listed{nil, api.OK}},
		{[]float64{0x1p-1074, most}, minus, listed{nil, api.OK}},
		{nil, 0x1p-1074, listed{nil, api.OK}},
		{[]float64{}, most, listed{nil, api.OK}},
		{[]float64{1, 0x1p60}, 3, listed{[]float64{3, 3 << 60}, api.OK}},
		{[]float64{1<<27 + 1}, 1<<27 + 1, listed{[]float64{1, 1<<54 + 1<<28}, api.OK}},
		{[]float64{0x1p995}, 1, listed{[]float64{0x1p995}, api.OK}},
		{[]float64{0x1p996}, 1, listed{[]float64{0x1p996}, api.OK}},
		{[]float64{0x1p997}, 1, listed{nil, api.ErrOver}}, // a step of Split
		{[]float64{1}, 0x1p997, listed{nil, api.ErrOver}},
		{[]float64{0x1p500}, 0x1p524, listed{nil, api.ErrOver}},
		{[]float64{0x1p500}, 0x1p523, listed{[]float64{0x1p1023}, api.OK}},
	} {
		if got := list(eft.Scale(c.e, c.b)); !got.is(c.want) || got.err != api.OK && got.l != nil {
			t.Errorf("Scale(%x, %x): %x, not %x", c.e, c.b, got, c.want)
		}
	}
}

// P4.5, P4.11, P4.12: Compress.
func TestCompress(t *testing.T) {
	r := rand.New(rand.NewSource(7))
	list1 := append(expansions(), noExpansions()...)
	for range 3000 {
		list1 = append(list1, ladder(r, 1+r.Intn(8), 1+r.Intn(53), r.Intn(4)*r.Intn(30), r.Intn(300)-1074))
	}
	wrong, shorter := 0, 0
	for _, e := range list1 {
		got, want := list(eft.Compress(e)), compressed(e)
		if !got.is(want) {
			t.Errorf("Compress(%x): %x, not %x", e, got, want)
			few(t, &wrong)
		}
		if got.err != api.OK {
			continue
		}
		sum := total(e...)
		if !stand(got.l, sum) || (len(got.l) == 0) != (len(e) == 0) {
			t.Errorf("Compress(%x): %x is not the sum", e, got)
			few(t, &wrong)
		}
		if len(got.l) == 0 {
			continue
		}
		if len(got.l) < len(e) {
			shorter++
		}
		last := got.l[len(got.l)-1]
		if sum.Sub(sum, units(last)).CmpAbs(units(anatomy.Ulp(last))) >= 0 {
			t.Errorf("Compress(%x): the last of %x isn't near", e, got)
			few(t, &wrong)
		}
	}
	if shorter < 500 {
		t.Errorf("only %d became shorter", shorter)
	}
}

func TestExpansionsNamed(t *testing.T) {
	for _, c := range []struct {
		name string
		got  listed
		want []float64
	}{
		{"Grow([1], 2^60)", list(eft.Grow([]float64{1}, 1<<60)), []float64{1, 1 << 60}},
		{"Grow([2^60], 1)", list(eft.Grow([]float64{1 << 60}, 1)), []float64{1, 1 << 60}},
		{"Grow([1, 2], 4)", list(eft.Grow([]float64{1, 2}, 4)), []float64{7}},
		{"Grow([1, 2^60], -1)", list(eft.Grow([]float64{1, 1 << 60}, -1)), []float64{1 << 60}},
		{"Grow([1, 2^60], -2^60)", list(eft.Grow([]float64{1, 1 << 60}, -1<<60)), []float64{1}},
		{"Grow([1, 2], 0)", list(eft.Grow([]float64{1, 2}, 0)), []float64{3}},
		{"Grow([1, 2^60], -0)", list(eft.Grow([]float64{1, 1 << 60}, minus)), []float64{1, 1 << 60}},
		{"Grow(nil, 5)", list(eft.Grow(nil, 5)), []float64{5}},
		{"Grow(nil, 0)", list(eft.Grow(nil, 0)), nil},
		{"Grow([], -0)", list(eft.Grow([]float64{}, minus)), nil},
		{"Grow([5], -5)", list(eft.Grow([]float64{5}, -5)), nil},
		{"Grow([most], 2^969)", list(eft.Grow([]float64{most}, 0x1p969)), []float64{0x1p969, most}},
		{"Add([1], [-1])", list(eft.Add([]float64{1}, []float64{-1})), nil},
		{"Add([1, 2^60], [-1, 2^120])", list(eft.Add([]float64{1, 1 << 60}, []float64{-1, 0x1p120})), []float64{1 << 60, 0x1p120}},
		{"Add(nil, nil)", list(eft.Add(nil, nil)), nil},
		{"Compress([1, 2])", list(eft.Compress([]float64{1, 2})), []float64{3}},
		{"Compress(nil)", list(eft.Compress(nil)), nil},
		{"Compress([1, 2, 2^60])", list(eft.Compress([]float64{1, 2, 1 << 60})), []float64{3, 1 << 60}},
		{"Compress([-1, 2^60])", list(eft.Compress([]float64{-1, 1 << 60})), []float64{-1, 1 << 60}},
		{"Compress([1, 2, .., 2^63])", list(eft.Compress(powers(64, 1, 0))), []float64{-1, 0x1p64}},
		{"Compress([2^969, most])", list(eft.Compress([]float64{0x1p969, most})), []float64{0x1p969, most}},
	} {
		if !c.got.is(listed{c.want, api.OK}) {
			t.Errorf("%s: %x, not %x", c.name, c.got, c.want)
		}
	}
}

// P4.6: Sign and Value.
func TestSignAndValue(t *testing.T) {
	wrong := 0
	for _, e := range expansions() {
		if s, err := eft.Sign(e); s != total(e...).Sign() || err != api.OK {
			t.Errorf("Sign(%x): %d, %d", e, s, err)
			few(t, &wrong)
		}
		want, err := 0.0, api.OK
		for _, x := range e {
			want += x
		}
		if math.IsInf(want, 0) {
			want, err = 0, api.ErrOver
		}
		if v, no := eft.Value(e); !same(v, want) || no != err {
			t.Errorf("Value(%x): %x, %d, not %x, %d", e, v, no, want, err)
			few(t, &wrong)
		}
	}
	for _, c := range []struct {
		e    []float64
		sign int
		sum  float64
		err  api.Errno
	}{
		{nil, 0, 0, api.OK},
		{[]float64{}, 0, 0, api.OK},
		{[]float64{1, -1 << 60}, -1, -1 << 60, api.OK},
		{[]float64{-1, 1 << 60}, 1, 1 << 60, api.OK},
		{[]float64{-1, 2}, 1, 1, api.OK},
		{[]float64{-0x1p-1074}, -1, -0x1p-1074, api.OK},
		{[]float64{1, 1 << 53}, 1, 1 << 53, api.OK},
		{[]float64{1, 2, 1 << 54}, 1, 1<<54 + 4, api.OK}, // from the first on: 1 + 2^54 would be 2^54
		{[]float64{0x1p969, most}, 1, most, api.OK},
		{[]float64{0x1p970, most}, 1, 0, api.ErrOver},
		{[]float64{-0x1p970, -most}, -1, 0, api.ErrOver},
		{[]float64{0x1p970, -most}, -1, -0x1.ffffffffffffep1023, api.OK},
	} {
		s, err := eft.Sign(c.e)
		v, no := eft.Value(c.e)
		if s != c.sign || err != api.OK || !same(v, c.sum) || no != c.err {
			t.Errorf("%x: Sign %d, %d, Value %x, %d", c.e, s, err, v, no)
		}
	}
}
