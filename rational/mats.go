package rational

import (
	"binnacle/api"
	"binnacle/exact"
)

// OfMat is a matrix, exactly.
func OfMat(m api.Mat) (api.FracMat, api.Errno) {
	return answered(func() api.FracMat { return writtenMat(exactlyMat(m)) })
}

// NearMat is the matrix of the nearest numbers.
func NearMat(m api.FracMat) (api.Mat, api.Errno) {
	return answered(func() api.Mat {
		g := readMat(m)
		out := api.Mat{Rows: m.Rows, Cols: m.Cols, At: make([]float64, 0, len(m.At))}
		for i := range m.Rows {
			for j := range m.Cols {
				out.At = append(out.At, nearest(g.At(i, j)))
			}
		}
		return out
	})
}

// Unit is the unit matrix.
func Unit(n int) (api.FracMat, api.Errno) {
	return answered(func() api.FracMat {
		require(n >= 0 && n <= api.MaxDim, api.ErrRange)
		return writtenMat(exact.Unit(n))
	})
}

// Turn is the transposed matrix.
func Turn(m api.FracMat) (api.FracMat, api.Errno) {
	return answered(func() api.FracMat {
		readMat(m)
		out := api.FracMat{Rows: m.Cols, Cols: m.Rows, At: make([]api.Frac, len(m.At))}
		for i, f := range m.At {
			out.At[i%m.Cols*m.Rows+i/m.Cols] = f
		}
		return out
	})
}

// AddMat is a sum.
func AddMat(a api.FracMat, b api.FracMat) (api.FracMat, api.Errno) {
	return placeByPlace(a, b, exact.Grid.Plus)
}

// SubMat is a difference.
func SubMat(a api.FracMat, b api.FracMat) (api.FracMat, api.Errno) {
	return placeByPlace(a, b, exact.Grid.Minus)
}

func placeByPlace(a, b api.FracMat, how func(x, y exact.Grid) exact.Grid) (api.FracMat, api.Errno) {
	return answered(func() api.FracMat {
		x, y := readMat(a), readMat(b)
		require(x.IsShapedAs(y), api.ErrShape)
		return writtenMat(how(x, y))
	})
}

// MulMat is a product.
func MulMat(a api.FracMat, b api.FracMat) (api.FracMat, api.Errno) {
	return answered(func() api.FracMat {
		x, y := readMat(a), readMat(b)
		require(x.Cols() == y.Rows(), api.ErrShape)
		return writtenMat(x.Times(y))
	})
}

// Scale is a matrix times a fraction.
func Scale(f api.Frac, a api.FracMat) (api.FracMat, api.Errno) {
	return answered(func() api.FracMat {
		factor, m := read(f), readMat(a)
		return writtenMat(m.Each(factor.Times))
	})
}

// Solve solves A X = B.
func Solve(a api.FracMat, b api.FracMat) (api.FracMat, api.Errno) {
	return answered(func() api.FracMat { return writtenMat(solved(readMat(a), readMat(b))) })
}

// Inverse is a matrix's inverse.
func Inverse(a api.FracMat) (api.FracMat, api.Errno) {
	return answered(func() api.FracMat {
		m := readMat(a)
		return writtenMat(solved(m, exact.Unit(m.Rows())))
	})
}

func solved(a, b exact.Grid) exact.Grid {
	require(a.IsSquare() && a.Rows() == b.Rows(), api.ErrShape)
	x, is := a.Solve(b)
	require(is, api.ErrSingular)
	return x
}

// Det is a matrix's determinant.
func Det(a api.FracMat) (api.Frac, api.Errno) {
	return answered(func() api.Frac {
		m := readMat(a)
		require(m.IsSquare(), api.ErrShape)
		return written(m.Det())
	})
}

// Rank is a matrix's rank.
func Rank(a api.FracMat) (int, api.Errno) {
	return answered(func() int { return readMat(a).Rank() })
}

// Sign is how a symmetric matrix stands to 0.
func Sign(a api.FracMat) (api.Sign, api.Errno) {
	return answered(func() api.Sign { return signOf(readMat(a)) })
}

// SignMat is that of a matrix of numbers, exactly.
func SignMat(m api.Mat) (api.Sign, api.Errno) {
	return answered(func() api.Sign { return signOf(exactlyMat(m)) })
}

func signOf(g exact.Grid) api.Sign {
	require(g.IsSquare(), api.ErrShape)
	require(g.IsSymmetric(), api.ErrFracSym)
	return g.Sign()
}

// AtMost tells whether A is at most B in the Loewner order.
func AtMost(a api.FracMat, b api.FracMat) (bool, api.Errno) {
	return answered(func() bool { return atMost(readMat(a), readMat(b)) })
}

// AtMostMat tells it of matrices of numbers, exactly.
func AtMostMat(a api.Mat, b api.Mat) (bool, api.Errno) {
	return answered(func() bool { return atMost(exactlyMat(a), exactlyMat(b)) })
}

func atMost(a, b exact.Grid) bool {
	require(a.IsSquare() && a.IsShapedAs(b), api.ErrShape)
	require(a.IsSymmetric() && b.IsSymmetric(), api.ErrFracSym)
	return b.Minus(a).Sign() != api.SignOther
}
