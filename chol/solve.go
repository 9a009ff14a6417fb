package chol

import (
	"binnacle/anatomy"
	"binnacle/api"
	"binnacle/matrix"
)

// Lower solves L x = b.
func Lower(l api.Mat, b []float64) ([]float64, api.Errno) {
	if err := checkSides(l, b); err != api.OK {
		return nil, err
	}
	return answered(forward(l, b))
}

// Upper solves L' x = b.
func Upper(l api.Mat, b []float64) ([]float64, api.Errno) {
	if err := checkSides(l, b); err != api.OK {
		return nil, err
	}
	return answered(backward(l, b))
}

// Solve solves A x = b.
func Solve(a api.Mat, b []float64) ([]float64, int, api.Errno) {
	if err := checkSquare(a); err != api.OK {
		return nil, 0, err
	}
	if err := checkList(b, a.Rows); err != api.OK {
		return nil, 0, err
	}
	l, place, err := Chol(a)
	if err != api.OK {
		return nil, place, err
	}
	x, err := solved(l, b)
	return x, 0, err
}

// SolveMat solves A X = B.
func SolveMat(a api.Mat, b api.Mat) (api.Mat, int, api.Errno) {
	if err := checkSquare(a); err != api.OK {
		return api.Mat{}, 0, err
	}
	if err := matrix.Check(b); err != api.OK {
		return api.Mat{}, 0, err
	}
	if b.Rows != a.Rows {
		return api.Mat{}, 0, api.ErrShape
	}
	l, place, err := Chol(a)
	if err != api.OK {
		return api.Mat{}, place, err
	}
	x, err := solvedColumns(l, b)
	return x, 0, err
}

// Inverse is a symmetric matrix's, symmetric.
func Inverse(a api.Mat) (api.Mat, int, api.Errno) {
	// If there is no unit matrix with so many rows, a isn't good, which SolveMat tells first.
	unit, _ := matrix.Eye(a.Rows)
	x, place, err := SolveMat(a, unit)
	if err != api.OK {
		return api.Mat{}, place, err
	}
	out, err := matrix.Mirror(x)
	return out, 0, err
}

func solvedColumns(l, b api.Mat) (api.Mat, api.Errno) {
	out := api.Mat{Rows: b.Rows, Cols: b.Cols, At: make([]float64, len(b.At))}
	for j := range b.Cols {
		column, _ := matrix.Col(b, j)
		x, err := solved(l, column)
		if err != api.OK {
			return api.Mat{}, err
		}
		for i := range b.Rows {
			out.At[i*b.Cols+j] = x[i]
		}
	}
	return out, api.OK
}

func solved(l api.Mat, b []float64) ([]float64, api.Errno) {
	return answered(backward(l, forward(l, b)))
}

// forward goes down a root triangle. Each step is a product turned into a float64 ahead of being taken away, so that the two aren't fused.
func forward(l api.Mat, b []float64) []float64 {
	x := make([]float64, len(b))
	for i := range len(b) {
		t := b[i]
		for k := range i {
			t -= float64(at(l, i, k) * x[k])
		}
		x[i] = t / at(l, i, i)
	}
	return x
}

// backward goes up a root triangle that is turned.
func backward(l api.Mat, b []float64) []float64 {
	x := make([]float64, len(b))
	for i := len(b) - 1; i >= 0; i-- {
		t := b[i]
		for k := i + 1; k < len(b); k++ {
			t -= float64(at(l, k, i) * x[k])
		}
		x[i] = t / at(l, i, i)
	}
	return x
}

// answered hands a list out, if it may be. Looking at the end is enough, behind backward of forward too: what isn't finite in the steps to a number stays so, for the diagonal is neither 0 nor infinite.
func answered(x []float64) ([]float64, api.Errno) {
	if !anatomy.Finite(x) {
		return nil, api.ErrOver
	}
	return x, api.OK
}
