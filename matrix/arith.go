package matrix

import "binnacle/api"

// Add adds number by number.
func Add(a, b api.Mat) (api.Mat, api.Errno) {
	if err := checkAlike(a, b); err != api.OK {
		return refused(err)
	}
	return answered(fill(a.Rows, a.Cols, func(i, j int) float64 { return at(a, i, j) + at(b, i, j) }))
}

// Sub subtracts number by number.
func Sub(a, b api.Mat) (api.Mat, api.Errno) {
	if err := checkAlike(a, b); err != api.OK {
		return refused(err)
	}
	return answered(fill(a.Rows, a.Cols, func(i, j int) float64 { return at(a, i, j) - at(b, i, j) }))
}

// Scale multiplies each number by s.
func Scale(m api.Mat, s float64) (api.Mat, api.Errno) {
	if err := Check(m); err != api.OK {
		return refused(err)
	}
	if !isFinite(s) {
		return refused(api.ErrNumber)
	}
	return answered(fill(m.Rows, m.Cols, func(i, j int) float64 { return at(m, i, j) * s }))
}

// Mul is the product of two matrices.
func Mul(a, b api.Mat) (api.Mat, api.Errno) {
	if err := checkBoth(a, b); err != api.OK {
		return refused(err)
	}
	if a.Cols != b.Rows {
		return refused(api.ErrShape)
	}
	return answered(byRows(a, turned(b)))
}

// MulVec is the product of a matrix and a column.
func MulVec(m api.Mat, x []float64) ([]float64, api.Errno) {
	if err := Check(m); err != api.OK {
		return nil, err
	}
	if err := checkList(x); err != api.OK {
		return nil, err
	}
	if m.Cols != len(x) {
		return nil, api.ErrShape
	}
	out, err := answered(byRows(m, api.Mat{Rows: 1, Cols: len(x), At: x}))
	return out.At, err
}

// Dot is the dot product in order.
func Dot(x, y []float64) (float64, api.Errno) {
	if err := checkLists(x, y); err != api.OK {
		return 0, err
	}
	if len(x) != len(y) {
		return 0, api.ErrShape
	}
	return answeredNumber(dot(x, y))
}

// Outer is the product of a column and a row.
func Outer(x, y []float64) (api.Mat, api.Errno) {
	if err := checkLists(x, y); err != api.OK {
		return refused(err)
	}
	return answered(fill(len(x), len(y), func(i, j int) float64 { return x[i] * y[j] }))
}

// Sandwich is f p f', symmetric bit by bit.
func Sandwich(f, p api.Mat) (api.Mat, api.Errno) {
	if err := checkBoth(f, p); err != api.OK {
		return refused(err)
	}
	if p.Rows != p.Cols || f.Cols != p.Rows {
		return refused(api.ErrShape)
	}
	// What isn't finite in the inner product meets f's first row at the least, and whatever that holds, the sum isn't finite either: it need not be looked for here.
	inner := byRows(f, turned(p))
	return answered(mirrored(f.Rows, func(i, j int) float64 { return dot(row(inner, i), row(f, j)) }))
}
