package rational

import (
	"binnacle/api"
	"binnacle/big"
)

// OfMat is a matrix, exactly.
func OfMat(m api.Mat) (api.FracMat, api.Errno) {
	return answered(func() api.FracMat { return writtenMat(exactlyMat(m)) })
}

// NearMat is the matrix of the nearest numbers.
func NearMat(m api.FracMat) (api.Mat, api.Errno) {
	return answered(func() api.Mat {
		g := readMat(m)
		out := api.Mat{Rows: g.rows, Cols: g.cols, At: make([]float64, len(g.at))}
		for i, f := range g.at {
			out.At[i] = nearest(f)
		}
		return out
	})
}

// Unit is the unit matrix.
func Unit(n int) (api.FracMat, api.Errno) {
	return answered(func() api.FracMat {
		require(within(n), api.ErrRange)
		return writtenMat(unit(n))
	})
}

// Turn is the transposed matrix.
func Turn(m api.FracMat) (api.FracMat, api.Errno) {
	return answered(func() api.FracMat {
		readMat(m)
		out := api.FracMat{Rows: m.Cols, Cols: m.Rows, At: make([]api.Frac, len(m.At))}
		for i, f := range m.At {
			out.At[i%m.Cols*m.Rows+i/m.Cols] = f
		}
		return out
	})
}

// AddMat is a sum.
func AddMat(a api.FracMat, b api.FracMat) (api.FracMat, api.Errno) {
	return placeByPlace(a, b, big.Rat.Plus)
}

// SubMat is a difference.
func SubMat(a api.FracMat, b api.FracMat) (api.FracMat, api.Errno) {
	return placeByPlace(a, b, big.Rat.Minus)
}

func placeByPlace(a, b api.FracMat, how func(x, y big.Rat) big.Rat) (api.FracMat, api.Errno) {
	return answered(func() api.FracMat {
		x, y := readMat(a), readMat(b)
		require(x.shapedAs(y), api.ErrShape)
		return writtenMat(x.with(y, how))
	})
}

// MulMat is a product.
func MulMat(a api.FracMat, b api.FracMat) (api.FracMat, api.Errno) {
	return answered(func() api.FracMat {
		x, y := readMat(a), readMat(b)
		require(x.cols == y.rows, api.ErrShape)
		return writtenMat(x.times(y))
	})
}

// Scale is a matrix times a fraction.
func Scale(f api.Frac, a api.FracMat) (api.FracMat, api.Errno) {
	return answered(func() api.FracMat {
		factor, m := read(f), readMat(a)
		return writtenMat(m.each(factor.Times))
	})
}

// Solve solves A X = B.
func Solve(a api.FracMat, b api.FracMat) (api.FracMat, api.Errno) {
	return answered(func() api.FracMat { return writtenMat(solved(readMat(a), readMat(b))) })
}

// Inverse is a matrix's inverse.
func Inverse(a api.FracMat) (api.FracMat, api.Errno) {
	return answered(func() api.FracMat {
		m := readMat(a)
		return writtenMat(solved(m, unit(m.rows)))
	})
}

func solved(a, b grid) grid {
	require(a.square() && a.rows == b.rows, api.ErrShape)
	return a.beside(b).cleared().solve()
}

// Det is a matrix's determinant.
func Det(a api.FracMat) (api.Frac, api.Errno) {
	return answered(func() api.Frac {
		m := readMat(a)
		require(m.square(), api.ErrShape)
		t := m.cleared()
		below := one()
		for _, scale := range t.scales {
			below = below.Times(scale)
		}
		return written(big.Ratio(t.det(), below))
	})
}

// Rank is a matrix's rank.
func Rank(a api.FracMat) (int, api.Errno) {
	return answered(func() int { return readMat(a).cleared().rank() })
}

// Sign is how a symmetric matrix stands to 0.
func Sign(a api.FracMat) (api.Sign, api.Errno) {
	return answered(func() api.Sign { return signOf(readMat(a)) })
}

// SignMat is that of a matrix of numbers, exactly.
func SignMat(m api.Mat) (api.Sign, api.Errno) {
	return answered(func() api.Sign { return signOf(exactlyMat(m)) })
}

func signOf(g grid) api.Sign {
	require(g.square(), api.ErrShape)
	require(g.symmetric(), api.ErrFracSym)
	return g.cleared().sign()
}

// AtMost tells whether A is at most B in the Loewner order.
func AtMost(a api.FracMat, b api.FracMat) (bool, api.Errno) {
	return answered(func() bool { return atMost(readMat(a), readMat(b)) })
}

// AtMostMat tells it of matrices of numbers, exactly.
func AtMostMat(a api.Mat, b api.Mat) (bool, api.Errno) {
	return answered(func() bool { return atMost(exactlyMat(a), exactlyMat(b)) })
}

func atMost(a, b grid) bool {
	require(a.square() && a.shapedAs(b), api.ErrShape)
	require(a.symmetric() && b.symmetric(), api.ErrFracSym)
	return b.with(a, big.Rat.Minus).cleared().sign() != api.SignOther
}
