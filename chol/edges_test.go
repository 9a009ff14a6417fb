package chol_test

import (
	"math"
	"math/rand"
	"slices"
	"testing"

	"binnacle/anatomy"
	"binnacle/api"
	"binnacle/chol"
	"binnacle/interval"
)

// told is a case: what was answered, and what should have been.
type told struct {
	what      string
	got, want answer
}

func hold(t *testing.T, cases ...told) {
	t.Helper()
	for _, c := range cases {
		if !c.got.is(c.want) {
			t.Errorf("%s: %+v, not %+v", c.what, c.got, c.want)
		}
	}
}

// square is a square matrix.
func square(at ...float64) api.Mat {
	n := int(math.Sqrt(float64(len(at))))
	return mat(n, n, at...)
}

func isMat(m api.Mat) answer { return answer{m: m} }

func isList(x ...float64) answer { return answer{list: x} }

func isNumber(x float64) answer { return answer{x: x} }

func isLDL(l api.Mat, d ...float64) answer { return answer{m: l, list: d} }

func areSpans(ends ...float64) answer {
	var out answer
	for i := 0; i < len(ends); i += 2 {
		out.spans = append(out.spans, api.Interval{Lo: ends[i], Hi: ends[i+1]})
	}
	return out
}

func truth(yes bool) answer { return answer{yes: yes} }

// The chapter's examples, as they stand.
func TestExamples(t *testing.T) {
	a := square(4, 2, 2, 5)
	hold(t,
		told{"1: Chol", askChol(a), isMat(square(2, 0, 1, 2))},
		told{"1: Det", askDet(a), isNumber(16)},
		told{"1: Solve", askSolve(a, list(8, 9)), isList(1.375, 1.25)},
		told{"1: Lower", askLower(square(2, 0, 1, 2), list(8, 9)), isList(4, 2.5)},
		told{"1: Upper", askUpper(square(2, 0, 1, 2), list(4, 2.5)), isList((4-1.25)/2, 1.25)},
		told{"1: Chol, not positive", askChol(square(1, 2, 2, 1)), faultAt(api.ErrPositive, 1)},
		told{"1: Chol of 0", askChol(square(0)), faultAt(api.ErrPositive, 0)},
		told{"1: Chol, not symmetric", askChol(square(1, 2, 3, 4)), fault(api.ErrSymmetric)},
		told{"2: LDL", askLDL(a), isLDL(square(1, 0, 0.5, 1), 4, 4)},
		told{"2: LDL, a pivot that is 0", askLDL(square(1, 1, 1, 1)), faultAt(api.ErrPivot, 1)},
		told{"2: LDL, a pivot below 0", askLDL(square(1, 2, 2, 1)), isLDL(square(1, 0, 2, 1), 1, -3)},
		told{"3: Inverse", askInverse(square(4, 0, 0, 0.25)), isMat(square(0.25, 0, 0, 4))},
		told{"3: Square", askSquare(square(2, 0, 1, 2)), isMat(a)},
		told{"3: Lower", askLower(square(1, 1, 0, 1), list(1, 1)), fault(api.ErrTriangle)},
		told{"4: Verified", askVerified(square(1, 0.5, 0.5, 1)), truth(true)},
		told{"4: Verified, not", askVerified(square(1, 1, 1, 1)), truth(false)},
		told{"4: Verified of no rows", askVerified(mat(0, 0)), truth(true)},
	)
}

// Matrices without rows, right sides without columns.
func TestNothing(t *testing.T) {
	none := mat(0, 0)
	hold(t,
		told{"Chol", askChol(none), isMat(none)},
		told{"LDL", askLDL(none), isLDL(none)},
		told{"Lower", askLower(none, nil), isList()},
		told{"Upper", askUpper(none, list()), isList()},
		told{"Solve", askSolve(none, nil), isList()},
		told{"SolveMat", askSolveMat(none, none), isMat(none)},
		told{"SolveMat, columns without rows", askSolveMat(none, mat(0, 12)), isMat(mat(0, 12))},
		told{"SolveMat, rows without columns", askSolveMat(square(4, 2, 2, 5), mat(2, 0)), isMat(mat(2, 0))},
		told{"SolveMat, no columns, not positive", askSolveMat(square(4, 2, 2, 1), mat(2, 0)), faultAt(api.ErrPositive, 1)},
		told{"SolveMat, no columns, not symmetric", askSolveMat(square(4, 2, 1, 5), mat(2, 0)), fault(api.ErrSymmetric)},
		told{"Inverse", askInverse(none), isMat(none)},
		told{"Det", askDet(none), isNumber(1)},
		told{"Square", askSquare(none), isMat(none)},
		told{"Pivots", askPivots(none), areSpans()},
		told{"Verified", askVerified(none), truth(true)},
	)
}

// One row.
func TestOneRow(t *testing.T) {
	root2 := 0x1.6a09e667f3bcdp+0
	hold(t,
		told{"Chol", askChol(square(2)), isMat(square(root2))},
		told{"Chol, subnormal", askChol(square(least)), isMat(square(0x1p-537))},
		told{"Chol, the greatest", askChol(square(most)), isMat(square(math.Sqrt(most)))},
		told{"Chol below 0", askChol(square(-least)), faultAt(api.ErrPositive, 0)},
		told{"LDL", askLDL(square(-3)), isLDL(square(1), -3)},
		told{"LDL, subnormal", askLDL(square(-least)), isLDL(square(1), -least)},
		told{"Lower", askLower(square(4), list(-6)), isList(-1.5)},
		told{"Upper", askUpper(square(4), list(-6)), isList(-1.5)},
		told{"Solve", askSolve(square(4), list(6)), isList(1.5)},
		told{"SolveMat", askSolveMat(square(4), mat(1, 3, 6, -2, 0)), isMat(mat(1, 3, 1.5, -0.5, 0))},
		told{"Inverse", askInverse(square(0x1p-1022)), isMat(square(0x1p1022))},
		told{"Inverse, beyond", askInverse(square(0x1p-1024)), fault(api.ErrOver)},
		told{"Det, each step rounded", askDet(square(2)), isNumber(2 + 0x1p-51)},
		told{"Square", askSquare(square(-3 + 6)), isMat(square(9))},
		told{"Square, beyond", askSquare(square(0x1p512)), fault(api.ErrOver)},
		told{"Square, just not", askSquare(square(0x1p511)), isMat(square(0x1p1022))},
		told{"Square, below what numbers hold", askSquare(square(0x1p-538)), isMat(square(0))},
		told{"Pivots", askPivots(square(least)), areSpans(least, least)},
		told{"Pivots below 0", askPivots(square(-1)), areSpans(-1, -1)},
		told{"Verified", askVerified(square(least)), truth(true)},
		told{"Verified below 0", askVerified(square(-least)), truth(false)},
		told{"Verified of 0", askVerified(square(minus)), truth(false)},
	)
}

// ones is a diagonal of so many ones.
func ones(n int) []float64 { return slices.Repeat(list(1), n) }

// MaxDim, and one more.
func TestMaxDim(t *testing.T) {
	eye, more := diagonal(ones(12)...), diagonal(ones(13)...)
	wrong := 0
	for _, c := range calls() {
		if got := held(t, &wrong, c, question{a: eye, b: eye, x: ones(12)}); got.err != api.OK {
			t.Errorf("%s of 12 rows: %+v", c.name, got)
		}
		if got := held(t, &wrong, c, question{a: more, b: more, x: ones(13)}); !got.is(fault(api.ErrRange)) {
			t.Errorf("%s of 13 rows: %+v", c.name, got)
		}
	}
	hold(t,
		told{"SolveMat, 13 columns", askSolveMat(diagonal(1), mat(1, 13, ones(13)...)), fault(api.ErrRange)},
		told{"SolveMat, 13 rows", askSolveMat(diagonal(1), mat(13, 1, ones(13)...)), fault(api.ErrRange)},
		told{"Lower, a list of 13", askLower(eye, ones(13)), fault(api.ErrShape)},
		told{"Upper, a list of 13", askUpper(eye, ones(13)), fault(api.ErrShape)},
		told{"Solve, a list of 13", askSolve(eye, ones(13)), fault(api.ErrShape)},
	)
}

// Noughts of either sign: they are what the steps give, and -0 on both sides of the diagonal is symmetric.
func TestNoughts(t *testing.T) {
	a := square(1, minus, minus, 1)
	l := square(1, 0, minus, 1)
	hold(t,
		told{"Chol", askChol(a), isMat(l)},
		told{"LDL", askLDL(a), isLDL(l, 1, 1)},
		told{"LDL, by a pivot below 0", askLDL(square(-1, 0, 0, 1)), isLDL(l, -1, 1)},
		told{"Lower", askLower(l, list(minus, minus)), isList(minus, minus)},
		told{"Lower, +0 less +0", askLower(square(1, 0, 1, 1), list(0, 0)), isList(0, 0)},
		told{"Lower, -0 less +0", askLower(square(1, 0, 1, 1), list(0, minus)), isList(0, minus)},
		told{"Lower, -0 less -0", askLower(square(1, 0, 1, 1), list(minus, minus)), isList(minus, 0)},
		told{"Upper", askUpper(square(1, 0, 1, 1), list(minus, 0)), isList(minus, 0)},
		told{"Upper, -0 less -0", askUpper(square(1, 0, 1, 1), list(minus, minus)), isList(0, minus)},
		told{"Solve", askSolve(square(1), list(minus)), isList(minus)},
		told{"Inverse", askInverse(a), isMat(square(1, 0, 0, 1))},
		told{"Square: a sum begins with +0", askSquare(l), isMat(square(1, 0, 0, 1))},
		told{"Pivots", askPivots(a), areSpans(1, 1, 1, 1)},
		told{"Verified", askVerified(a), truth(true)},
	)
}

// Pivots that are 0 of either sign, below 0, subnormal.
func TestPivotsOnTheWay(t *testing.T) {
	gone, goneMinus := square(1, 1, 1, 1), square(1, 0, 0, minus)
	hold(t,
		told{"Chol, +0", askChol(gone), faultAt(api.ErrPositive, 1)},
		told{"Chol, -0", askChol(goneMinus), faultAt(api.ErrPositive, 1)},
		told{"LDL, +0", askLDL(gone), faultAt(api.ErrPivot, 1)},
		told{"LDL, -0", askLDL(goneMinus), faultAt(api.ErrPivot, 1)},
		told{"LDL of -0", askLDL(square(minus)), faultAt(api.ErrPivot, 0)},
		told{"Pivots, +0", askPivots(gone), faultAt(api.ErrPivot, 1)},
		told{"Pivots, -0", askPivots(goneMinus), faultAt(api.ErrPivot, 1)},
		told{"Chol, subnormal", askChol(square(1, 0, 0, 0x4p-1074)), isMat(square(1, 0, 0, 0x1p-536))},
		told{"Chol, subnormals all", askChol(square(0x4p-1074, 0x4p-1074, 0x4p-1074, 0x8p-1074)), isMat(square(0x1p-536, 0, 0x1p-536, 0x1p-536))},
		told{"LDL, subnormals all", askLDL(square(0x4p-1074, 0x4p-1074, 0x4p-1074, 0x5p-1074)), isLDL(square(1, 0, 1, 1), 0x4p-1074, least)},
		told{"LDL, a pivot that falls below", askLDL(square(0x3p-1074, least, least, least)), isLDL(square(1, 0, 1.0/3, 1), 0x3p-1074, least)},
		told{"Pivots, subnormals all", askPivots(square(0x4p-1074, 0x4p-1074, 0x4p-1074, 0x5p-1074)), areSpans(0x4p-1074, 0x4p-1074, least, least)},
		told{"Det, of subnormals", askDet(square(least)), isNumber(least)},
		told{"Det, below what numbers hold", askDet(diagonal(0x1p-600, 0x1p-600)), isNumber(0)},
		told{"Verified, below 0 behind one above", askVerified(square(1, 2, 2, 1)), truth(false)},
		told{"Verified, above 0 behind one below", askVerified(diagonal(-1, 1)), truth(false)},
		told{"Pivots, below 0", askPivots(square(1, 2, 2, 1)), areSpans(1, 1, -3, -3)},
	)
}

// Places: each column's, the first of several; what is told beside all calls that factor.
func TestPlaces(t *testing.T) {
	for place := range 12 {
		for _, x := range []float64{0, minus, -1, -least, -most} {
			d := ones(12)
			d[place] = x
			if place < 11 {
				d[11] = x
			}
			a := diagonal(d...)
			at, pivot := faultAt(api.ErrPositive, place), faultAt(api.ErrPivot, place)
			hold(t,
				told{"Chol", askChol(a), at}, told{"Det", askDet(a), at}, told{"Inverse", askInverse(a), at},
				told{"Solve", askSolve(a, ones(12)), at}, told{"SolveMat", askSolveMat(a, a), at}, told{"SolveMat, no columns", askSolveMat(a, mat(12, 0)), at},
			)
			if x == 0 {
				hold(t, told{"LDL", askLDL(a), pivot}, told{"Pivots", askPivots(a), pivot})
			} else if got := askLDL(a); got.err != api.OK || !sameList(got.list, d) {
				t.Errorf("LDL of %v: %+v", d, got)
			}
			hold(t, told{"Verified", askVerified(a), truth(false)})
		}
	}
}

// Steps whose order shows in their bits; products that would show if they were joined with a difference.
func TestInOrder(t *testing.T) {
	near, nearSquare := 1+0x1p-30, 1+0x1p-29
	hold(t,
		told{"Lower", askLower(square(1, 0, 0, 0, 1, 0, 1, 1, 1), list(1, 0x1p100, 0x1p100)), isList(1, 0x1p100, 0)},
		told{"Upper", askUpper(square(1, 0, 0, 1, 1, 0, 1, 0, 1), list(0x1p100, 1, 0x1p100)), isList(0, 1, 0x1p100)},
		told{"Lower, not fused", askLower(square(1, 0, near, 1), list(near, nearSquare)), isList(near, 0)},
		told{"Upper, not fused", askUpper(square(1, 0, near, 1), list(nearSquare, near)), isList(0, near)},
		told{"Chol, not fused", askChol(square(1, near, near, nearSquare+0x1p-52)), isMat(square(1, 0, near, 0x1p-26))},
		told{"LDL, not fused", askLDL(square(1, near, near, nearSquare+0x1p-52)), isLDL(square(1, 0, near, 1), 1, 0x1p-52)},
		told{"Square, not fused", askSquare(square(1, 0, near, 1)), isMat(square(1, near, near, nearSquare+1))},
		told{"LDL, the numbers of L first", askLDL(square(0x1p600, 1, 1, 0x1p-600)), isLDL(square(1, 0, 0x1p-600, 1), 0x1p600, 0x1p-600)},
	)
}

// Steps beyond what numbers hold: ahead of a place, behind it, and where the end would be finite again.
func TestBeyond(t *testing.T) {
	over := fault(api.ErrOver)
	hold(t,
		told{"Chol, a product at the place itself", askChol(square(least, 1, 1, 1)), over},
		told{"Chol, a quotient ahead", askChol(square(least, 0, most, 0, -1, 0, most, 0, 1)), over},
		told{"Chol, a quotient behind", askChol(square(1, 0, 0, 0, -least, most, 0, most, 1)), faultAt(api.ErrPositive, 1)},
		told{"Chol, all behind", askChol(square(0, most, most, 0)), faultAt(api.ErrPositive, 0)},
		told{"Chol, a difference", askChol(square(0x1p-30, -0x1p480, 0x1p480, -0x1p480, 0x1p1000, most, 0x1p480, most, most)), over},
		told{"LDL, a quotient ahead", askLDL(square(least, 0, 1, 0, 0, 0, 1, 0, 1)), over},
		told{"LDL, a quotient behind", askLDL(square(1, 0, 0, 0, 0, most, 0, most, least)), faultAt(api.ErrPivot, 1)},
		told{"LDL, a product that would be finite again", askLDL(square(0x1p-1000, 0x1p-400, 0x1p-400, 1)), over},
		told{"LDL, a product by the pivot", askLDL(square(0x1p1000, most, most, 1)), over},
		told{"LDL, just not", askLDL(square(0x1p-1000, 0x1p-490, 0x1p-490, 1)), isLDL(square(1, 0, 0x1p510, 1), 0x1p-1000, 1-0x1p20)},
		told{"Lower, a product", askLower(square(1, 0, 0x1p600, 1), list(0x1p600, 1)), over},
		told{"Lower, a quotient", askLower(square(0.5), list(most)), over},
		told{"Lower, a quotient of a subnormal", askLower(square(least, 0, 0, 1), list(1, 1)), over},
		told{"Lower, a difference that would be finite again", askLower(square(1, 0, 0, 0, 1, 0, 1, 1, 1), list(most, -most, -most)), over},
		told{"Lower, in another order", askLower(square(1, 0, 0, 0, 1, 0, 1, 1, 1), list(-most, most, -most)), isList(-most, most, -most)},
		told{"Lower, an infinity times nought", askLower(square(0.5, 0, 0, 1), list(most, 1)), over},
		told{"Upper, a product", askUpper(square(1, 0, 0x1p600, 1), list(1, 0x1p600)), over},
		told{"Upper, a quotient", askUpper(square(0.5), list(-most)), over},
		told{"Upper, a difference that would be finite again", askUpper(square(1, 0, 0, 1, 1, 0, 1, 0, 1), list(-most, most, -most)), over},
		told{"Upper, in another order", askUpper(square(1, 0, 0, 1, 1, 0, 1, 0, 1), list(-most, -most, most)), isList(-most, -most, most)},
		told{"Solve, behind Chol", askSolve(square(0x1p-1022), list(4)), over},
		told{"Solve, in Lower alone", askSolve(diagonal(0x1p-800, 1), list(0x1p800, 1)), over},
		told{"Solve, at the place", askSolve(diagonal(0x1p-1022, -1), list(4, 4)), faultAt(api.ErrPositive, 1)},
		told{"SolveMat, the last column", askSolveMat(square(0x1p-1022), mat(1, 3, 1, 2, 4)), over},
		told{"SolveMat, just not", askSolveMat(square(0x1p-1022), mat(1, 3, 1, 2, 3)), isMat(mat(1, 3, 0x1p1022, 0x1p1023, 0x1.8p1023))},
		told{"Inverse", askInverse(diagonal(1, least)), over},
		told{"Det, that would be finite again", askDet(diagonal(0x1p1000, 0x1p1000, 0x1p-1000, 0x1p-1000)), over},
		told{"Det, in another order", askDet(diagonal(0x1p1000, 0x1p-1000, 0x1p1000, 0x1p-1000)), isNumber(1)},
		told{"Det, behind a 0", askDet(diagonal(0x1p-600, 0x1p-600, 0x1p1000, 0x1p1000)), isNumber(0)},
		told{"Det, at the place", askDet(diagonal(most, most, 0)), faultAt(api.ErrPositive, 2)},
		told{"Square, a number alone", askSquare(square(1, 0, 0x1p512, 1)), over},
		told{"Square, a sum", askSquare(square(1, 0, 0, 0, 1, 0, 0x1.6p511, 0x1.6p511, 0x1.6p511)), over},
	)
}

// P9.4: of an inverse that roundings made unlike across the diagonal, what stands below it is kept.
func TestInverseMirrored(t *testing.T) {
	r := rand.New(rand.NewSource(94))
	unlike := 0
	for range 300 {
		a := chanceSymmetric(r, kindMild, 2+r.Intn(11))
		x, _, err := chol.SolveMat(a, diagonal(ones(a.Rows)...))
		if err != api.OK {
			continue
		}
		if !sameMat(mirrored(x), x) {
			unlike++
		}
		hold(t, told{"Inverse", askInverse(a), isMat(mirrored(x))})
	}
	if unlike < 50 {
		t.Errorf("only %d weren't symmetric already", unlike)
	}
}

// P9.7: ends that become infinite, and are gone on with.
func TestInfiniteEnds(t *testing.T) {
	step := interval.Sub(api.Interval{Lo: 1, Hi: 1}, interval.Mul(api.Interval{Lo: most, Hi: inf}, api.Interval{Lo: 0x1p-1000, Hi: 0x1p-1000}))
	if !isFinite(step.Hi) || isFinite(step.Lo) || step.Hi >= 0 {
		t.Fatalf("the case is none: %v", step)
	}
	a := square(0x1p-1000, 0x1p-400, 0, 0x1p-400, 1, 0, 0, 0, 5)
	hold(t,
		told{"behind a product", askPivots(square(0x1p-1000, 0x1p-400, 0x1p-400, 1)), areSpans(0x1p-1000, 0x1p-1000, step.Lo, step.Hi)},
		told{"gone on with", askPivots(a), areSpans(0x1p-1000, 0x1p-1000, step.Lo, step.Hi, 5, 5)},
		told{"verified, not", askVerified(a), truth(false)},
		told{"behind a quotient", askPivots(square(least, most, most, 0)), areSpans(least, least, -inf, -0x1.fffffffffffffp-51)},
		told{"behind a quotient, all numbers", askPivots(square(least, most, most, most)), faultAt(api.ErrPivot, 1)},
	)
	r := rand.New(rand.NewSource(97))
	wrong, infinite := 0, 0
	pivots := calls()[9]
	for range 3000 {
		got := held(t, &wrong, pivots, question{a: chanceSymmetric(r, []int{kindEdge, kindBits}[r.Intn(2)], 2+r.Intn(3))})
		if slices.ContainsFunc(got.spans, func(d api.Interval) bool { return !isFinite(d.Lo) || !isFinite(d.Hi) }) {
			infinite++
		}
	}
	if infinite < 100 {
		t.Errorf("only %d answers with an infinite end", infinite)
	}
}

// P9.7, P9.8: pivots that hold 0 at an end alone, and such that just don't.
func TestNoughtAtAnEnd(t *testing.T) {
	three, one := api.Interval{Lo: 3, Hi: 3}, api.Interval{Lo: 1, Hi: 1}
	third := interval.Div(one, three)
	taken := interval.Mul(interval.Mul(third, third), three)
	if taken.Lo >= taken.Hi {
		t.Fatalf("the case is none: %v", taken)
	}
	of := func(x float64) api.Mat { return square(3, 1, 1, x) }
	above, below := anatomy.Next(taken.Hi), anatomy.Prev(taken.Lo)
	hold(t,
		told{"Lo is 0", askPivots(of(taken.Hi)), faultAt(api.ErrPivot, 1)},
		told{"Hi is 0", askPivots(of(taken.Lo)), faultAt(api.ErrPivot, 1)},
		told{"Lo is just above 0", askPivots(of(above)), areSpans(3, 3, above-taken.Hi, above-taken.Lo)},
		told{"Hi is just below 0", askPivots(of(below)), areSpans(3, 3, below-taken.Hi, below-taken.Lo)},
		told{"not verified, Lo is 0", askVerified(of(taken.Hi)), truth(false)},
		told{"verified", askVerified(of(above)), truth(true)},
		told{"not verified, below 0", askVerified(of(below)), truth(false)},
	)
}
