package matrix_test

import (
	"testing"

	"binnacle/api"
	"binnacle/matrix"
)

// told is a case: what was answered, and what should have been.
type told struct {
	what      string
	got, want answer
}

func (c told) hold(t *testing.T) {
	t.Helper()
	if !c.got.is(c.want) {
		t.Errorf("%s: %+v, not %+v", c.what, c.got, c.want)
	}
}

func isMat(rows, cols int, at ...float64) answer { return answer{m: mat(rows, cols, at...)} }

func isList(x ...float64) answer { return answer{list: x} }

func isNumber(x float64) answer { return answer{x: [3]float64{x}} }

func norms(m api.Mat) answer {
	one, most, greatest, e := matrix.Norms(m)
	return answer{x: [3]float64{one, most, greatest}, err: e}
}

// The chapter's examples, as they stand.
func TestExamples(t *testing.T) {
	twice := mat(1, 2, 1e308, 1e308)
	upright := must(t)(matrix.Transpose(twice))
	for _, c := range []told{
		{"1: Mul", asked(matrix.Mul(mat(2, 2, 1, 2, 3, 4), mat(2, 2, 0, 1, 1, 0))), isMat(2, 2, 2, 1, 4, 3)},
		{"1: Sandwich", asked(matrix.Sandwich(mat(1, 2, 1, 2), mat(2, 2, 1, 0, 0, 1))), isMat(1, 1, 5)},
		{"1: Mean", asked(matrix.Mean(mat(2, 2, 1, 2, 4, 1))), isMat(2, 2, 1, 3, 3, 1)},
		{"1: Order", asked(matrix.Order(mat(2, 2, 1, 2, 3, 4), []int{1, 0})), isMat(2, 2, 4, 3, 2, 1)},
		{"2: Mul", asked(matrix.Mul(twice, upright)), fault(api.ErrOver)},
		{"2: Get", askedNumber(matrix.Get(mat(1, 2, 1, 2), 0, 2)), fault(api.ErrRange)},
		{"2: Check, its numbers", fault(matrix.Check(mat(1, 2, 1))), fault(api.ErrShape)},
		{"2: Check, its rows", fault(matrix.Check(mat(-1, 0))), fault(api.ErrRange)},
		{"2: Check, a NaN", fault(matrix.Check(mat(1, 1, nan))), fault(api.ErrNumber)},
		{"3: Dot", askedNumber(matrix.Dot(list(1, 0x1p-60, -1), list(1, 1, 1))), isNumber(0)},
		{"3: Norms", norms(mat(2, 2, 1, -2, 3, 4)), answer{x: [3]float64{6, 7, 4}}},
		{"3: Symmetric", truth(matrix.Symmetric(mat(2, 2, 1, 0, minus, 1))), truth(false)},
	} {
		c.hold(t)
	}
}

// Matrices without rows, without columns, without either.
func TestNothing(t *testing.T) {
	rows, cols, none := mat(3, 0), mat(0, 3), mat(0, 0)
	for _, c := range []told{
		{"Zero", asked(matrix.Zero(3, 0)), isMat(3, 0)},
		{"Zero of nothing", asked(matrix.Zero(0, 0)), isMat(0, 0)},
		{"Eye", asked(matrix.Eye(0)), isMat(0, 0)},
		{"Diag", asked(matrix.Diag(nil)), isMat(0, 0)},
		{"Of none", asked(matrix.Of(nil)), isMat(0, 0)},
		{"Of empty ones", asked(matrix.Of([][]float64{nil, {}, nil})), isMat(3, 0)},
		{"Of twelve empty ones", asked(matrix.Of(make([][]float64, 12))), isMat(12, 0)},
		{"Row", askedList(matrix.Row(rows, 2)), isList()},
		{"Row of none", askedList(matrix.Row(cols, 0)), fault(api.ErrRange)},
		{"Col", askedList(matrix.Col(cols, 2)), isList()},
		{"Col of none", askedList(matrix.Col(rows, 0)), fault(api.ErrRange)},
		{"Get", askedNumber(matrix.Get(rows, 0, 0)), fault(api.ErrRange)},
		{"Transpose", asked(matrix.Transpose(rows)), isMat(0, 3)},
		{"Block at the end", asked(matrix.Block(mat(2, 1, 5, 6), 2, 1, 0, 0)), isMat(0, 0)},
		{"Block of nothing", asked(matrix.Block(none, 0, 0, 0, 0)), isMat(0, 0)},
		{"Block past the end", asked(matrix.Block(mat(2, 1, 5, 6), 3, 0, 0, 0)), fault(api.ErrRange)},
		{"Beside", asked(matrix.Beside(rows, mat(3, 1, 1, 2, 3))), isMat(3, 1, 1, 2, 3)},
		{"Beside without rows", asked(matrix.Beside(mat(0, 6), mat(0, 6))), isMat(0, 12)},
		{"Beside without rows, too wide", asked(matrix.Beside(mat(0, 6), mat(0, 7))), fault(api.ErrRange)},
		{"Stack", asked(matrix.Stack(mat(1, 3, 1, 2, 3), cols)), isMat(1, 3, 1, 2, 3)},
		{"Stack without columns, too high", asked(matrix.Stack(mat(12, 0), mat(1, 0))), fault(api.ErrRange)},
		{"Order", asked(matrix.Order(none, []int{})), isMat(0, 0)},
		{"Mul of no columns and no rows", asked(matrix.Mul(rows, mat(0, 2))), isMat(3, 2, 0, 0, 0, 0, 0, 0)},
		{"Mul to nothing", asked(matrix.Mul(cols, mat(3, 0))), isMat(0, 0)},
		{"MulVec of no columns", askedList(matrix.MulVec(rows, nil)), isList(0, 0, 0)},
		{"MulVec of no rows", askedList(matrix.MulVec(cols, list(1, 2, 3))), isList()},
		{"Dot", askedNumber(matrix.Dot(nil, list())), isNumber(0)},
		{"Outer", asked(matrix.Outer(list(1, 2), nil)), isMat(2, 0)},
		{"Outer of nothing", asked(matrix.Outer(nil, list(1, 2))), isMat(0, 2)},
		{"Sandwich of no columns", asked(matrix.Sandwich(mat(2, 0), none)), isMat(2, 2, 0, 0, 0, 0)},
		{"Sandwich of no rows", asked(matrix.Sandwich(mat(0, 1), mat(1, 1, most))), isMat(0, 0)},
		{"Symmetric", truth(matrix.Symmetric(none)), truth(true)},
		{"Symmetric, no rows", truth(matrix.Symmetric(cols)), truth(false)},
		{"Lower", truth(matrix.Lower(none)), truth(true)},
		{"Lower, no columns", truth(matrix.Lower(rows)), truth(false)},
		{"Mirror", asked(matrix.Mirror(none)), isMat(0, 0)},
		{"Mean", asked(matrix.Mean(none)), isMat(0, 0)},
		{"Trace", askedNumber(matrix.Trace(none)), isNumber(0)},
		{"Norms", norms(rows), answer{}},
		{"Norms of nothing", norms(none), answer{}},
		{"Equal", truth(matrix.Equal(rows, cols)), truth(false)},
	} {
		c.hold(t)
	}
}

// Sums whose order shows in their bits; products that would show if they were joined with a sum.
func TestInOrder(t *testing.T) {
	near := 1 + 0x1p-30
	big := list(1, 0x1p100, 1, -0x1p100)
	ones := list(1, 1, 1, 1)
	for _, c := range []told{
		{"Dot", askedNumber(matrix.Dot(big, ones)), isNumber(0)},
		{"Dot, the last one alone", askedNumber(matrix.Dot(list(0x1p100, 1, -0x1p100, 1), ones)), isNumber(1)},
		{"Dot, not fused", askedNumber(matrix.Dot(list(-(1+0x1p-29), near), list(1, near))), isNumber(0)},
		{"MulVec", askedList(matrix.MulVec(mat(2, 4, 1, 0x1p100, 1, -0x1p100, 0x1p100, 1, -0x1p100, 1), ones)), isList(0, 1)},
		{"Mul", asked(matrix.Mul(mat(1, 4, big...), mat(4, 1, ones...))), isMat(1, 1, 0)},
		{"Mul, not fused", asked(matrix.Mul(mat(1, 2, -(1+0x1p-29), near), mat(2, 1, 1, near))), isMat(1, 1, 0)},
		{"Trace", askedNumber(matrix.Trace(mat(3, 3, 1, 0, 0, 0, 0x1p-53, 0, 0, 0, 0x1p-53))), isNumber(1)},
		{"Trace, turned round", askedNumber(matrix.Trace(mat(3, 3, 0x1p-53, 0, 0, 0, 0x1p-53, 0, 0, 0, 1))), isNumber(1 + 0x1p-52)},
		{"Norms", norms(mat(2, 3, 1, -0x1p-53, 0x1p-53, 0, 0, 0)), answer{x: [3]float64{1, 1, 1}}},
		{"Norms, turned round", norms(mat(3, 1, -0x1p-53, 0x1p-53, 1)), answer{x: [3]float64{1 + 0x1p-52, 1, 1}}},
		{"Sandwich: the inner product first", asked(matrix.Sandwich(mat(1, 3, 1, 1, 1), mat(3, 3, 1, 0, 0, 0x1p-53, 0, 0, 0x1p-53, 0, 0))), isMat(1, 1, 1)},
		{"Sandwich: then f's rows", asked(matrix.Sandwich(mat(1, 3, 1, 1, 1), mat(3, 3, 0x1p-53, 0x1p-53, 1, 0, 0, 0, 0, 0, 0))), isMat(1, 1, 1+0x1p-52)},
		{"Sandwich of what isn't symmetric: from the diagonal down", asked(matrix.Sandwich(mat(2, 2, 1, 0, 0, 1), mat(2, 2, 1, 2, 3, 4))), isMat(2, 2, 1, 3, 3, 4)},
	} {
		c.hold(t)
	}
}

// Noughts of either sign: they are what the steps give.
func TestNoughts(t *testing.T) {
	m := mat(2, 2, minus, 0, 0, minus)
	for _, c := range []told{
		{"Dot", askedNumber(matrix.Dot(list(minus), list(1))), isNumber(0)},
		{"MulVec", askedList(matrix.MulVec(m, list(1, 1))), isList(0, 0)},
		{"Mul", asked(matrix.Mul(mat(1, 1, minus), mat(1, 1, 1))), isMat(1, 1, 0)},
		{"Outer", asked(matrix.Outer(list(minus, -1), list(1, 0))), isMat(2, 2, minus, minus, -1, minus)},
		{"Scale", asked(matrix.Scale(m, -1)), isMat(2, 2, 0, minus, minus, 0)},
		{"Scale by -0", asked(matrix.Scale(mat(1, 2, 1, -1), minus)), isMat(1, 2, minus, 0)},
		{"Add", asked(matrix.Add(m, m)), isMat(2, 2, minus, 0, 0, minus)},
		{"Sub", asked(matrix.Sub(mat(1, 3, minus, minus, 1), mat(1, 3, minus, 0, 1))), isMat(1, 3, 0, minus, 0)},
		{"Trace", askedNumber(matrix.Trace(m)), isNumber(0)},
		{"Norms", norms(mat(1, 1, minus)), answer{}},
		{"Mean", asked(matrix.Mean(mat(2, 2, minus, minus, minus, 5))), isMat(2, 2, minus, minus, minus, 5)},
		{"Mean of unlike noughts", asked(matrix.Mean(mat(2, 2, minus, 0, minus, 5))), isMat(2, 2, minus, 0, 0, 5)},
		{"Mirror", asked(matrix.Mirror(mat(2, 2, minus, 0, minus, 5))), isMat(2, 2, minus, minus, minus, 5)},
		{"Diag", asked(matrix.Diag(list(minus, 1))), isMat(2, 2, minus, 0, 0, 1)},
		{"Transpose", asked(matrix.Transpose(mat(1, 2, minus, 0))), isMat(2, 1, minus, 0)},
		{"With", asked(matrix.With(mat(1, 1, 1), 0, 0, minus)), isMat(1, 1, minus)},
		{"Get", askedNumber(matrix.Get(m, 1, 1)), isNumber(minus)},
		{"Sandwich", asked(matrix.Sandwich(mat(1, 1, 1), mat(1, 1, minus))), isMat(1, 1, 0)},
		{"Symmetric", truth(matrix.Symmetric(mat(2, 2, 1, minus, minus, 1))), truth(true)},
		{"Symmetric but for a sign", truth(matrix.Symmetric(mat(2, 2, 1, minus, 0, 1))), truth(false)},
		{"Lower", truth(matrix.Lower(mat(2, 2, minus, 0, minus, 0))), truth(true)},
		{"Lower but for a sign", truth(matrix.Lower(mat(2, 2, 1, minus, 1, 1))), truth(false)},
		{"Equal", truth(matrix.Equal(mat(1, 1, minus), mat(1, 1, 0))), truth(false)},
	} {
		c.hold(t)
	}
}

// What is beyond what numbers hold, also where only a step on the way is.
func TestOver(t *testing.T) {
	back := list(most, most, -most)
	ones := list(1, 1, 1)
	over := fault(api.ErrOver)
	for _, c := range []told{
		{"Dot", askedNumber(matrix.Dot(back, ones)), over},
		{"Dot, in another order", askedNumber(matrix.Dot(list(most, -most, most), ones)), isNumber(most)},
		{"Dot, the products", askedNumber(matrix.Dot(list(1e200, 1e200), list(1e200, -1e200))), over},
		{"Dot, a product by nought", askedNumber(matrix.Dot(list(most, 0), list(1, most))), isNumber(most)},
		{"MulVec", askedList(matrix.MulVec(mat(2, 3, 1, 1, 1, most, most, -most), ones)), over},
		{"Mul", asked(matrix.Mul(mat(1, 3, back...), mat(3, 1, ones...))), over},
		{"Mul, the last one alone", asked(matrix.Mul(mat(2, 1, 1, most), mat(1, 2, 1, 2))), over},
		{"Add", asked(matrix.Add(mat(1, 2, 1, most), mat(1, 2, 1, most))), over},
		{"Add, half an ulp", asked(matrix.Add(mat(1, 1, most), mat(1, 1, 0x1p970))), over},
		{"Add, less than that", asked(matrix.Add(mat(1, 1, most), mat(1, 1, 0x1p969))), isMat(1, 1, most)},
		{"Sub", asked(matrix.Sub(mat(1, 2, 1, -most), mat(1, 2, 1, most))), over},
		{"Sub of alike ones", asked(matrix.Sub(mat(1, 1, most), mat(1, 1, most))), isMat(1, 1, 0)},
		{"Scale", asked(matrix.Scale(mat(1, 2, 1, most), 1+0x1p-52)), over},
		{"Scale by 1", asked(matrix.Scale(mat(1, 2, 1, most), 1)), isMat(1, 2, 1, most)},
		{"Outer", asked(matrix.Outer(list(1, 0x1p512), list(1, -0x1p512))), over},
		{"Outer, just not", asked(matrix.Outer(list(1, 0x1p512), list(1, -0x1p511))), isMat(2, 2, 1, -0x1p511, 0x1p512, -0x1p1023)},
		{"Trace", askedNumber(matrix.Trace(mat(3, 3, most, 0, 0, 0, most, 0, 0, 0, -most))), over},
		{"Trace, in another order", askedNumber(matrix.Trace(mat(3, 3, most, 0, 0, 0, -most, 0, 0, 0, most))), isNumber(most)},
		{"Mean", asked(matrix.Mean(mat(2, 2, 1, most, most, 1))), over},
		{"Mean of opposites", asked(matrix.Mean(mat(2, 2, most, most, -most, -most))), isMat(2, 2, most, 0, 0, -most)},
		{"Mean of one", asked(matrix.Mean(mat(1, 1, most))), isMat(1, 1, most)},
		{"Mirror", asked(matrix.Mirror(mat(2, 2, most, most, most, most))), isMat(2, 2, most, most, most, most)},
		{"Norms of a column", norms(mat(2, 1, most, -most)), over},
		{"Norms of a row", norms(mat(1, 2, -most, most)), over},
		{"Norms, just not", norms(mat(2, 2, -most, 0, 0, most)), answer{x: [3]float64{most, most, most}}},
		{"Norms, the greatest alone below", norms(mat(2, 2, 0x1p1023, 1, 0x1p1022, 1)), answer{x: [3]float64{1.5 * 0x1p1023, 0x1p1023, 0x1p1023}}},
	} {
		c.hold(t)
	}
}

// P8.4: where a number of the inner product isn't finite, nothing that comes behind makes it good.
func TestSandwichOver(t *testing.T) {
	over := fault(api.ErrOver)
	for _, c := range []told{
		{"an infinity times nought", asked(matrix.Sandwich(mat(2, 1, 0, 1e200), mat(1, 1, 1e200))), over},
		{"an infinity in a column that f's rows have noughts in", asked(matrix.Sandwich(mat(1, 2, 2, 0), mat(2, 2, 1, most, 1, 1))), over},
		{"the same in f's last row", asked(matrix.Sandwich(mat(2, 2, 1, 0, 2, 0), mat(2, 2, 1, most, 1, 1))), over},
		{"infinities that go against each other", asked(matrix.Sandwich(mat(1, 2, 1e200, -1e200), mat(2, 2, 1e200, 1e200, 1e200, 1e200))), over},
		{"a step on the way", asked(matrix.Sandwich(mat(1, 3, 1, 1, 1), mat(3, 3, most, 0, 0, most, 0, 0, -most, 0, 0))), over},
		{"the outer product alone", asked(matrix.Sandwich(mat(1, 1, 0x1p512), mat(1, 1, 1))), over},
		{"just not", asked(matrix.Sandwich(mat(1, 2, 2, 0), mat(2, 2, 1, 0x1p1022, 1, 1))), isMat(1, 1, 4)},
		{"above the diagonal alone: not asked for", asked(matrix.Sandwich(mat(2, 2, 1, 0, 0, 2), mat(2, 2, 1, most, 1, 1))), isMat(2, 2, 1, 2, 2, 4)},
	} {
		c.hold(t)
	}
}

// Subnormals are numbers like others.
func TestSubnormals(t *testing.T) {
	for _, c := range []told{
		{"Dot", askedNumber(matrix.Dot(list(least, least), list(1, 0.5))), isNumber(least)},
		{"Dot, products rounded ahead of being added", askedNumber(matrix.Dot(list(least, least), list(0.5, 0.5))), isNumber(0)},
		{"Scale", asked(matrix.Scale(mat(1, 3, least, 0x3p-1074, -least), 0.5)), isMat(1, 3, 0, 0x2p-1074, minus)},
		{"Mean", asked(matrix.Mean(mat(2, 2, least, least, 0x2p-1074, least))), isMat(2, 2, least, 0x2p-1074, 0x2p-1074, least)},
		{"Mean of alike ones", asked(matrix.Mean(mat(2, 2, least, least, least, least))), isMat(2, 2, least, least, least, least)},
		{"Mean of one and nought", asked(matrix.Mean(mat(2, 2, 0, least, 0, 0))), isMat(2, 2, 0, 0, 0, 0)},
		{"Sub", asked(matrix.Sub(mat(1, 1, 0x1p-1022), mat(1, 1, 0x1p-1022-least))), isMat(1, 1, least)},
		{"Trace", askedNumber(matrix.Trace(mat(1, 1, -least))), isNumber(-least)},
		{"Norms", norms(mat(1, 2, -least, least)), answer{x: [3]float64{least, 0x2p-1074, least}}},
	} {
		c.hold(t)
	}
}

// P8.6: Equal asks of any two, good or not.
func TestEqual(t *testing.T) {
	all := append(good(), mat(1, 1, minus), mat(1, 1, 0), mat(1, 2, 3), mat(2, 1, 3), mat(1, 2, 3, 4), mat(2, 1, 3, 4), mat(2, 2, 1, 2, 3, 5), mat(2, 2, 0, 2, 3, 4), mat(0, 12), mat(0, 0, 1))
	for _, c := range spoiltMats() {
		all = append(all, c.m)
	}
	wrong := 0
	equal := byName(t, "Equal")
	for _, a := range all {
		for _, b := range all {
			held(t, &wrong, equal, question{a: a, b: b})
		}
		if !matrix.Equal(a, a) {
			t.Errorf("%v isn't told equal to itself", a)
		}
	}
	for _, c := range []struct {
		a, b api.Mat
		yes  bool
	}{
		{mat(2, 2, 1), mat(2, 2, 1), true}, {mat(-1, 7, 1, nan), mat(-1, 7, 1, unfit()[5]), true}, {mat(1, 1, inf), mat(1, 1, -inf), false}, {mat(1, 1, inf), mat(1, 1, nan), false}, {mat(1, 2, 1, 2), mat(1, 2, 1), false}, {mat(1, 2, 1), mat(1, 2, 1, 2), false}, {mat(1, 2, 1, 2), mat(2, 1, 1, 2), false}, {api.Mat{}, mat(0, 0, list()...), true},
	} {
		if matrix.Equal(c.a, c.b) != c.yes || matrix.Equal(c.b, c.a) != c.yes {
			t.Errorf("Equal(%v, %v): not %v", c.a, c.b, c.yes)
		}
	}
}

// P8.5: each place of a matrix counts for being symmetric, and each above the diagonal for being lower.
func TestEachPlaceCounts(t *testing.T) {
	for _, n := range []int{1, 2, 3, 12} {
		m := must(t)(matrix.Zero(n, n))
		if !matrix.Symmetric(m) || !matrix.Lower(m) {
			t.Errorf("noughts, %d by %d, are told neither", n, n)
		}
		for i := range n {
			for j := range n {
				for _, x := range []float64{minus, 1, least} {
					c := must(t)(matrix.With(m, i, j, x))
					if matrix.Symmetric(c) != (i == j) || matrix.Lower(c) != (i >= j) {
						t.Errorf("%d by %d with %g at (%d, %d): symmetric %v, lower %v", n, n, x, i, j, matrix.Symmetric(c), matrix.Lower(c))
					}
				}
			}
		}
	}
}

// P8.1, P8.2: MaxDim and one more, either way, in what comes in and in what would be answered.
func TestMaxDim(t *testing.T) {
	full := func(n int) []float64 { return make([]float64, n) }
	for _, c := range []told{
		{"Zero", asked(matrix.Zero(12, 12)), isMat(12, 12, full(144)...)},
		{"Zero, rows", asked(matrix.Zero(13, 0)), fault(api.ErrRange)},
		{"Zero, columns", asked(matrix.Zero(0, 13)), fault(api.ErrRange)},
		{"Zero, rows below 0", asked(matrix.Zero(-1, 3)), fault(api.ErrRange)},
		{"Zero, columns below 0", asked(matrix.Zero(3, -1)), fault(api.ErrRange)},
		{"Eye", asked(matrix.Eye(13)), fault(api.ErrRange)},
		{"Eye below 0", asked(matrix.Eye(-1)), fault(api.ErrRange)},
		{"Eye of 1", asked(matrix.Eye(1)), isMat(1, 1, 1)},
		{"Diag", asked(matrix.Diag(full(12))), isMat(12, 12, full(144)...)},
		{"Diag of more", asked(matrix.Diag(full(13))), fault(api.ErrRange)},
		{"Of", asked(matrix.Of([][]float64{full(12)})), isMat(1, 12, full(12)...)},
		{"Beside", asked(matrix.Beside(mat(1, 5, full(5)...), mat(1, 7, full(7)...))), isMat(1, 12, full(12)...)},
		{"Beside of more", asked(matrix.Beside(mat(1, 6, full(6)...), mat(1, 7, full(7)...))), fault(api.ErrRange)},
		{"Beside of the most", asked(matrix.Beside(mat(1, 12, full(12)...), mat(1, 12, full(12)...))), fault(api.ErrRange)},
		{"Stack", asked(matrix.Stack(mat(11, 1, full(11)...), mat(1, 1, 0))), isMat(12, 1, full(12)...)},
		{"Stack of more", asked(matrix.Stack(mat(12, 1, full(12)...), mat(1, 1, 0))), fault(api.ErrRange)},
		{"Outer", asked(matrix.Outer(full(12), full(12))), isMat(12, 12, full(144)...)},
		{"Outer of more", asked(matrix.Outer(full(12), full(13))), fault(api.ErrRange)},
		{"Dot", askedNumber(matrix.Dot(full(12), full(12))), isNumber(0)},
		{"Dot of more", askedNumber(matrix.Dot(full(13), full(13))), fault(api.ErrRange)},
		{"Mul", asked(matrix.Mul(mat(12, 12, full(144)...), mat(12, 12, full(144)...))), isMat(12, 12, full(144)...)},
	} {
		c.hold(t)
	}
}
