package chol_test

import (
	"math"
	"math/big"
	"math/rand"
	"slices"
	"testing"

	"binnacle/api"
	"binnacle/chol"
)

// isMiddling tells whether all numbers that aren't 0 have magnitudes from 2^-300 to 2^300.
func isMiddling(l []float64) bool {
	return !slices.ContainsFunc(l, func(x float64) bool { return x != 0 && (math.Abs(x) < 0x1p-300 || math.Abs(x) > 0x1p300) })
}

// off tells, in fractions, whether a place of A is farther from L L' than P9.9 allows.
func off(a, l api.Mat, i, j int) bool {
	gap, amounts := fraction(number(a, i, j)), new(big.Rat)
	for k := range a.Rows {
		p := new(big.Rat).Mul(fraction(number(l, i, k)), fraction(number(l, j, k)))
		gap.Sub(gap, p)
		amounts.Add(amounts, p.Abs(p))
	}
	nu := new(big.Rat).Mul(big.NewRat(int64(a.Rows+1), 1), fraction(0x1p-53))
	bound := new(big.Rat).Quo(nu, new(big.Rat).Sub(big.NewRat(1, 1), nu))
	return gap.Abs(gap).Cmp(bound.Mul(bound, amounts)) > 0
}

// P9.9: what Chol answers is near, held exactly.
func TestNear(t *testing.T) {
	r := rand.New(rand.NewSource(99))
	wrong := 0
	var answered [kinds]int
	for round := range 600 {
		kind := []int{kindWhole, kindMild, kindWide, kindFlat, kindEdge, kindBits}[round%6]
		a := chanceSymmetric(r, kind, 1+r.Intn(12))
		l, _, err := chol.Chol(a)
		if err != api.OK || !isMiddling(a.At) || !isMiddling(l.At) {
			continue
		}
		answered[kind]++
		for i := range a.Rows {
			for j := range a.Rows {
				if off(a, l, i, j) {
					t.Errorf("Chol of %x: too far at (%d, %d)", a, i, j)
					few(t, &wrong)
				}
			}
		}
	}
	for _, kind := range []int{kindWhole, kindMild, kindWide, kindFlat} {
		if answered[kind] < 20 {
			t.Errorf("kind %d: answered only %d times", kind, answered[kind])
		}
	}
	if !off(square(4), square(2+0x1p-50), 0, 0) || off(square(4), square(2), 0, 0) || !off(square(4, 2, 2, 5), square(2, 0, 1+0x1p-49, 2), 1, 0) {
		t.Error("the bound isn't held")
	}
}

// minors are the determinants of a's first rows and columns, of one row on, up to one that is 0; whole numbers, a's times the same power of 2.
func minors(a api.Mat) ([]*big.Int, int) {
	low := 0
	for _, x := range a.At {
		if x != 0 {
			_, e := math.Frexp(x)
			low = min(low, e-53)
		}
	}
	var m [12][12]*big.Int
	for i := range a.Rows {
		for j := range a.Rows {
			m[i][j] = whole(number(a, i, j), -low)
		}
	}
	var out []*big.Int
	ahead := big.NewInt(1)
	for k := range a.Rows {
		out = append(out, m[k][k])
		if m[k][k].Sign() == 0 {
			break
		}
		for i := k + 1; i < a.Rows; i++ {
			for j := k + 1; j < a.Rows; j++ {
				x := new(big.Int).Mul(m[i][j], m[k][k])
				x.Sub(x, new(big.Int).Mul(m[i][k], m[k][j]))
				m[i][j] = x.Quo(x, ahead)
			}
		}
		ahead = m[k][k]
	}
	return out, low
}

// whole is x times 2^by, which is a whole number.
func whole(x float64, by int) *big.Int {
	f := new(big.Float).SetPrec(53).SetFloat64(x)
	out, _ := f.SetMantExp(f, by).Int(nil)
	return out
}

// exactPivots are quotients of minors one behind the other, up to one that is 0.
func exactPivots(a api.Mat) []*big.Rat {
	dets, low := minors(a)
	unit := new(big.Rat).SetFrac(big.NewInt(1), new(big.Int).Lsh(big.NewInt(1), uint(-low)))
	var out []*big.Rat
	ahead := big.NewInt(1)
	for _, d := range dets {
		out = append(out, new(big.Rat).Mul(new(big.Rat).SetFrac(d, ahead), unit))
		ahead = d
	}
	return out
}

// inside tells whether an interval holds a fraction.
func inside(x *big.Rat, d api.Interval) bool {
	aboveLo := math.IsInf(d.Lo, -1) || fraction(d.Lo).Cmp(x) <= 0
	belowHi := math.IsInf(d.Hi, 1) || x.Cmp(fraction(d.Hi)) <= 0
	return aboveLo && belowHi
}

// P9.10: what is verified is positive, and the exact pivots lie in those of Pivots.
func TestSurelyPositive(t *testing.T) {
	r := rand.New(rand.NewSource(910))
	wrong, verified, narrow, told := 0, 0, 0, 0
	for round := range 1600 {
		n := r.Intn(13)
		kind := round % kinds
		if kind >= kindEdge {
			n = min(n, 5)
		}
		a := chanceSymmetric(r, kind, n)
		exact := exactPivots(a)
		positive := !slices.ContainsFunc(exact, func(d *big.Rat) bool { return d.Sign() <= 0 })
		if yes, err := chol.Verified(a); err != api.OK || yes && !positive {
			t.Errorf("Verified of %x: %v, %d", a, yes, err)
			few(t, &wrong)
		} else if yes {
			verified++
		} else if positive {
			narrow++
		}
		pivots, _, err := chol.Pivots(a)
		if err != api.OK {
			continue
		}
		told++
		for j, d := range pivots {
			if j >= len(exact) || !inside(exact[j], d) {
				t.Errorf("Pivots of %x: the exact one of column %d isn't in %v", a, j, d)
				few(t, &wrong)
			}
		}
	}
	if verified < 300 || narrow < 20 || told-verified < 100 {
		t.Errorf("verified %d, not verified though positive %d, pivots beside %d", verified, narrow, told-verified)
	}
}

// The exact pivots are right where one can see it.
func TestExactPivots(t *testing.T) {
	for _, c := range []struct {
		a    api.Mat
		want []string
	}{
		{square(4, 2, 2, 5), []string{"4/1", "4/1"}}, {square(3, 1, 1, 0.5), []string{"3/1", "1/6"}}, {square(1, 1, 1, 1), []string{"1/1", "0/1"}}, {square(0, 1, 1, 0), []string{"0/1"}},
		{square(2, 1, 0, 1, 2, 1, 0, 1, 2), []string{"2/1", "3/2", "4/3"}}, {square(-0.5), []string{"-1/2"}}, {square(0.25, 2, 2, 0x1p-60), []string{"1/4", "-18446744073709551615/1152921504606846976"}},
	} {
		var got []string
		for _, d := range exactPivots(c.a) {
			got = append(got, d.String())
		}
		if !slices.Equal(got, c.want) {
			t.Errorf("%v: %v, not %v", c.a, got, c.want)
		}
	}
}

// The matrix nearest to one that isn't positive is told apart, if intervals can: DOC.md's example.
func TestByABit(t *testing.T) {
	hold(t,
		told{"Chol", askChol(square(1, 1, 1, 1+0x1p-52)), isMat(square(1, 0, 1, 0x1p-26))},
		told{"Verified", askVerified(square(1, 1, 1, 1+0x1p-52)), truth(true)},
		told{"Pivots", askPivots(square(1, 1, 1, 1-0x1p-53)), areSpans(1, 1, -0x1p-53, -0x1p-53)},
	)
}

// P9.11: each column of SolveMat is Solve of that column.
func TestSolved(t *testing.T) {
	r := rand.New(rand.NewSource(911))
	wrong, answered := 0, 0
	for range 1500 {
		kind := r.Intn(kinds)
		n := chanceSide(r)
		a, b := chanceSymmetric(r, kind, n), chanceMat(r, kind, n, chanceSide(r))
		x, _, err := chol.SolveMat(a, b)
		if err != api.OK {
			continue
		}
		if x.Rows != n || x.Cols != b.Cols || len(x.At) != n*b.Cols {
			t.Errorf("%d by %d numbers for %d by %d", x.Rows, x.Cols, n, b.Cols)
			continue
		}
		for j := range b.Cols {
			answered++
			if one, _, err := chol.Solve(a, colOf(b, j)); err != api.OK || !sameList(one, colOf(x, j)) {
				t.Errorf("%x, column %d of %x: %x, not %x", a, j, b, colOf(x, j), one)
				few(t, &wrong)
			}
		}
	}
	if answered < 500 {
		t.Errorf("only %d columns", answered)
	}
}

// What is solved is near to what was asked, where the matrix is mild: a look at the whole by the way back.
func TestThereAndBack(t *testing.T) {
	a := square(4, 2, 0, 2, 5, 1, 0, 1, 3)
	l, _, _ := chol.Chol(a)
	back, err := chol.Square(l)
	if err != api.OK {
		t.Fatalf("Square: %d", err)
	}
	inverse, _, _ := chol.Inverse(a)
	for i := range 3 {
		for j := range 3 {
			sum := 0.0
			for k := range 3 {
				sum += number(a, i, k) * number(inverse, k, j)
			}
			if want := math.Max(0, 1-math.Abs(float64(i-j))); math.Abs(sum-want) > 1e-14 || math.Abs(number(back, i, j)-number(a, i, j)) > 1e-14 {
				t.Errorf("(%d, %d): %g, %g", i, j, sum, number(back, i, j))
			}
		}
	}
	if det, _, _ := chol.Det(a); math.Abs(det-44) > 1e-12 {
		t.Errorf("Det: %g", det)
	}
}
