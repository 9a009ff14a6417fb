package matrix_test

import (
	"math"
	"slices"
	"testing"

	"binnacle/api"
	"binnacle/matrix"
)

// good are matrices that fit with nothing in particular.
func good() []api.Mat {
	return []api.Mat{{}, mat(1, 1, 3), mat(2, 2, 1, 2, 3, 4), mat(2, 3, 1, 2, 3, 4, 5, 6), mat(12, 0)}
}

// P8.1, P8.5, P8: what is wrong with a matrix.
func TestCheck(t *testing.T) {
	for _, c := range spoiltMats() {
		if e := matrix.Check(c.m); e != c.err {
			t.Errorf("Check(%v): %d, not %d", c.m, e, c.err)
		}
		if matrix.Symmetric(c.m) || matrix.Lower(c.m) {
			t.Errorf("%v is told symmetric or lower", c.m)
		}
	}
	for _, m := range good() {
		if e := matrix.Check(m); e != api.OK {
			t.Errorf("Check(%v): %d", m, e)
		}
	}
	if e := matrix.Check(mat(12, 12, make([]float64, 144)...)); e != api.OK {
		t.Errorf("Check of 12 by 12: %d", e)
	}
}

// ofOne are the calls that take one matrix first, with what else they take, be it good or not.
func ofOne(m api.Mat, x []float64, s float64, i int) map[string]answer {
	one, most, greatest, e := matrix.Norms(m)
	return map[string]answer{
		"Get": askedNumber(matrix.Get(m, i, i)), "With": asked(matrix.With(m, i, i, s)), "Row": askedList(matrix.Row(m, i)), "Col": askedList(matrix.Col(m, i)),
		"Transpose": asked(matrix.Transpose(m)), "Block": asked(matrix.Block(m, i, i, i, i)), "Order": asked(matrix.Order(m, []int{i, i})), "Scale": asked(matrix.Scale(m, s)),
		"MulVec": askedList(matrix.MulVec(m, x)), "Mirror": asked(matrix.Mirror(m)), "Mean": asked(matrix.Mean(m)), "Trace": askedNumber(matrix.Trace(m)), "Norms": {x: [3]float64{one, most, greatest}, err: e},
	}
}

// ofTwo are the calls that take two.
func ofTwo(a, b api.Mat) map[string]answer {
	return map[string]answer{
		"Beside": asked(matrix.Beside(a, b)), "Stack": asked(matrix.Stack(a, b)), "Add": asked(matrix.Add(a, b)), "Sub": asked(matrix.Sub(a, b)), "Mul": asked(matrix.Mul(a, b)), "Sandwich": asked(matrix.Sandwich(a, b)),
	}
}

// refusing tells of all calls that don't refuse as they should.
func refusing(t *testing.T, l map[string]answer, e api.Errno, of ...any) {
	t.Helper()
	for name, got := range l {
		if !got.is(fault(e)) {
			t.Errorf("%s of %v: %+v, not error %d", name, of, got, e)
		}
	}
}

// P8, P4: a matrix that isn't good is told ahead of all that comes behind it; beside the error stand zero values.
func TestSpoiltFirst(t *testing.T) {
	for _, c := range spoiltMats() {
		for _, x := range [][]float64{nil, list(1), list(1, 2), list(nan), make([]float64, 13)} {
			for _, s := range []float64{1, inf} {
				for _, i := range []int{0, 1, -1, 12, math.MaxInt} {
					refusing(t, ofOne(c.m, x, s, i), c.err, c.m, x, s, i)
				}
			}
		}
		for _, d := range spoiltMats() {
			refusing(t, ofTwo(c.m, d.m), c.err, c.m, d.m)
		}
		for _, m := range good() {
			refusing(t, ofTwo(c.m, m), c.err, c.m, m)
			refusing(t, ofTwo(m, c.m), c.err, m, c.m)
		}
	}
}

// Lists are told on in the order of the arguments, ahead of shapes that don't go together.
func TestSpoiltLists(t *testing.T) {
	for _, c := range spoiltLists() {
		refusing(t, map[string]answer{"Diag": asked(matrix.Diag(c.x))}, c.err, c.x)
		for _, m := range good() {
			refusing(t, map[string]answer{"MulVec": askedList(matrix.MulVec(m, c.x))}, c.err, m, c.x)
		}
		pairs := func(x, y []float64) map[string]answer {
			return map[string]answer{"Dot": askedNumber(matrix.Dot(x, y)), "Outer": asked(matrix.Outer(x, y))}
		}
		for _, d := range spoiltLists() {
			refusing(t, pairs(c.x, d.x), c.err, c.x, d.x)
		}
		for _, x := range [][]float64{nil, list(1), list(1, 2, 3), make([]float64, 12)} {
			refusing(t, pairs(c.x, x), c.err, c.x, x)
			refusing(t, pairs(x, c.x), c.err, x, c.x)
		}
	}
}

// Shapes that don't go together, with numbers whose products and sums would be beyond what numbers hold: ErrShape, and for Beside and Stack ahead of ErrRange.
func TestShapesAheadOfOver(t *testing.T) {
	m := func(rows, cols int) api.Mat { return mat(rows, cols, slices.Repeat(list(most), rows*cols)...) }
	x := func(n int) []float64 { return m(1, n).At }
	wide := map[string]answer{
		"Beside": asked(matrix.Beside(m(2, 12), m(3, 12))), "Stack": asked(matrix.Stack(m(12, 2), m(12, 3))), "Order of a square": asked(matrix.Order(m(2, 2), []int{0, 0, 5})), "Order of none": asked(matrix.Order(m(2, 3), []int{7, 7})), "Order, too few": asked(matrix.Order(m(2, 2), []int{-1})), "Order of nothing": asked(matrix.Order(m(2, 2), nil)),
		"Add": asked(matrix.Add(m(2, 3), m(3, 2))), "Add, rows": asked(matrix.Add(m(2, 3), m(1, 3))), "Add, columns": asked(matrix.Add(m(2, 3), m(2, 2))), "Sub": asked(matrix.Sub(m(2, 3), m(3, 2))), "Sub, rows": asked(matrix.Sub(m(2, 0), m(1, 0))), "Mul": asked(matrix.Mul(m(2, 3), m(2, 3))), "MulVec": askedList(matrix.MulVec(m(2, 3), x(2))), "Dot": askedNumber(matrix.Dot(x(2), x(3))), "Dot with nothing": askedNumber(matrix.Dot(x(2), nil)),
		"Sandwich, not square": asked(matrix.Sandwich(m(2, 3), m(3, 2))), "Sandwich, columns": asked(matrix.Sandwich(m(2, 3), m(2, 2))), "Sandwich turned": asked(matrix.Sandwich(m(2, 3), m(2, 3))), "Mirror": asked(matrix.Mirror(m(2, 3))), "Mean": asked(matrix.Mean(m(3, 2))), "Trace": askedNumber(matrix.Trace(m(2, 3))), "Trace of a row": askedNumber(matrix.Trace(m(1, 2))), "Mirror of none": asked(matrix.Mirror(m(0, 2))),
	}
	refusing(t, wide, api.ErrShape)
}

// P8.1: the rows of Of, also where two things are wrong with them.
func TestOfRefuses(t *testing.T) {
	cases := []struct {
		rows [][]float64
		err  api.Errno
	}{
		{make([][]float64, 13), api.ErrRange}, {make([][]float64, 5000), api.ErrRange}, {[][]float64{make([]float64, 13)}, api.ErrRange}, {[][]float64{make([]float64, 13), {1}}, api.ErrRange}, {[][]float64{append(make([]float64, 12), nan)}, api.ErrRange}, {append(make([][]float64, 13), list(nan)), api.ErrRange},
		{[][]float64{{1}, {1, 2}}, api.ErrShape}, {[][]float64{{1, 2}, {1}}, api.ErrShape}, {[][]float64{{1}, make([]float64, 13)}, api.ErrShape}, {[][]float64{nil, {1}}, api.ErrShape}, {[][]float64{{1}, nil}, api.ErrShape}, {[][]float64{{nan}, {1}, {1, 2}}, api.ErrShape}, {[][]float64{{1}, {inf, 2}}, api.ErrShape}, {[][]float64{{1, 2}, {1, 2}, {1, 2, 3}}, api.ErrShape},
		{[][]float64{{1, 2}, {3, nan}}, api.ErrNumber}, {[][]float64{{inf}}, api.ErrNumber}, {[][]float64{{1}, {2}, {-inf}}, api.ErrNumber},
	}
	for _, c := range cases {
		refusing(t, map[string]answer{"Of": asked(matrix.Of(c.rows))}, c.err, c.rows)
	}
	for _, x := range unfit() {
		refusing(t, map[string]answer{"Of": asked(matrix.Of([][]float64{{1, x}})), "With": asked(matrix.With(mat(1, 1, 2), 0, 0, x)), "Scale": asked(matrix.Scale(mat(0, 0), x)), "Scale by": asked(matrix.Scale(mat(1, 1, 2), x))}, api.ErrNumber, x)
		refusing(t, map[string]answer{"With": asked(matrix.With(mat(1, 1, 2), 0, 1, x)), "With below": asked(matrix.With(mat(1, 1, 2), -1, 0, x))}, api.ErrRange, x)
	}
}

// P8.2: what is no order.
func TestNoOrders(t *testing.T) {
	wrong := 0
	order := byName(t, "Order")
	m := mat(3, 3, 1, 2, 3, 4, 5, 6, 7, 8, 9)
	for _, p := range [][]int{{0, 1, 1}, {0, 0, 0}, {2, 1, 2}, {0, 1, 3}, {0, 1, -1}, {3, 2, 1}, {-3, -2, -1}, {0, 1, math.MaxInt}, {math.MinInt, 1, 2}, {0, 1, 12}} {
		if got := held(t, &wrong, order, question{a: m, p: p}); got.err != api.ErrRange {
			t.Errorf("Order by %v: %+v", p, got)
		}
	}
	full := make([]float64, 144)
	for i := range full {
		full[i] = float64(i)
	}
	for k := range 12 {
		p := []int{0, 1, 2, 3, 4, 5, 6, 7, 8, 9, 10, 11}
		for _, v := range []int{-1, 12, 13, p[(k+1)%12]} {
			p[k] = v
			if got := held(t, &wrong, order, question{a: mat(12, 12, full...), p: p}); got.err != api.ErrRange {
				t.Errorf("Order by %v: %+v", p, got)
			}
		}
	}
	if got := held(t, &wrong, order, question{}); got.err != api.OK {
		t.Errorf("Order of nothing: %+v", got)
	}
}
