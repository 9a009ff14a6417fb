package rational

import (
	"binnacle/api"
	"binnacle/big"
	"binnacle/exact"
	"binnacle/matrix"
)

// read is the fraction of a text, which must be one.
func read(f api.Frac) big.Rat {
	out, is := exact.Read(f)
	require(is, api.ErrFrac)
	return out
}

// readMat is the grid of a fraction matrix, which must be good.
func readMat(m api.FracMat) exact.Grid {
	out, why := exact.ReadMat(m)
	allow(why)
	return out
}

// exactly is a number, which must be finite, as a fraction.
func exactly(x float64) big.Rat {
	out, is := exact.Of(x)
	require(is, api.ErrNumber)
	return out
}

// exactlyMat is the grid of a matrix of numbers, which must be good.
func exactlyMat(m api.Mat) exact.Grid {
	allow(matrix.Check(m))
	return exact.Filled(m.Rows, m.Cols, func(i, j int) big.Rat { return exactly(m.At[i*m.Cols+j]) })
}

// written is a fraction's one text; it must not be too great.
func written(f big.Rat) api.Frac {
	f, fits := exact.Fitted(f)
	require(fits, api.ErrLong)
	return exact.Text(f)
}

// writtenMat is the fraction matrix of a grid, of which no fraction may be too great.
func writtenMat(g exact.Grid) api.FracMat {
	g, fits := g.Fitted()
	require(fits, api.ErrLong)
	return g.TextMat()
}
