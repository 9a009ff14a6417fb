package rational

import (
	"binnacle/api"
	"binnacle/big"
	"binnacle/matrix"
)

// grid is a matrix of fractions, row by row.
type grid struct {
	rows, cols int
	at         []big.Rat
}

// filled is a grid whose fractions are told place by place.
func filled(rows, cols int, tell func(i, j int) big.Rat) grid {
	out := grid{rows, cols, make([]big.Rat, 0, rows*cols)}
	for i := range rows {
		for j := range cols {
			out.at = append(out.at, tell(i, j))
		}
	}
	return out
}

// readMat is the grid of a fraction matrix, which must be good.
func readMat(m api.FracMat) grid {
	require(within(m.Rows) && within(m.Cols), api.ErrRange)
	require(len(m.At) == m.Rows*m.Cols, api.ErrShape)
	return filled(m.Rows, m.Cols, func(i, j int) big.Rat { return read(m.At[i*m.Cols+j]) })
}

func within(n int) bool {
	return n >= 0 && n <= api.MaxDim
}

// exactlyMat is the grid of a matrix of numbers, which must be good.
func exactlyMat(m api.Mat) grid {
	allow(matrix.Check(m))
	return filled(m.Rows, m.Cols, func(i, j int) big.Rat { return exactly(m.At[i*m.Cols+j]) })
}

// writtenMat is the fraction matrix of a grid, of which no fraction may be too great.
func writtenMat(g grid) api.FracMat {
	out := api.FracMat{Rows: g.rows, Cols: g.cols, At: make([]api.Frac, 0, len(g.at))}
	for _, f := range g.at {
		out.At = append(out.At, written(f))
	}
	return out
}

func one() big.Int { return big.Whole(false, 1) }

func unit(n int) grid {
	return filled(n, n, func(i, j int) big.Rat {
		if i == j {
			return big.Ratio(one(), one())
		}
		return big.Ratio(big.Int{}, one())
	})
}

func (g grid) get(i, j int) big.Rat { return g.at[i*g.cols+j] }

func (g grid) square() bool { return g.rows == g.cols }

func (g grid) shapedAs(h grid) bool { return g.rows == h.rows && g.cols == h.cols }

func (g grid) turned() grid {
	return filled(g.cols, g.rows, func(i, j int) big.Rat { return g.get(j, i) })
}

// each is a grid of what becomes of each fraction.
func (g grid) each(how func(x big.Rat) big.Rat) grid {
	return filled(g.rows, g.cols, func(i, j int) big.Rat { return how(g.get(i, j)) })
}

// with joins two grids of one shape place by place.
func (g grid) with(h grid, how func(x, y big.Rat) big.Rat) grid {
	return filled(g.rows, g.cols, func(i, j int) big.Rat { return how(g.get(i, j), h.get(i, j)) })
}

// times is the product of a grid with one that has as many rows as it has columns.
func (g grid) times(h grid) grid {
	left, right := g.cleared(), h.turned().cleared()
	return filled(g.rows, h.cols, func(i, j int) big.Rat {
		return big.Ratio(dot(left.row(i), right.row(j)), left.scales[i].Times(right.scales[j]))
	})
}

func dot(x, y []big.Int) big.Int {
	var out big.Int
	for i := range x {
		out = out.Plus(x[i].Times(y[i]))
	}
	return out
}

// beside is a grid with the columns of another one, of as many rows, behind its own.
func (g grid) beside(h grid) grid {
	return filled(g.rows, g.cols+h.cols, func(i, j int) big.Rat {
		if j < g.cols {
			return g.get(i, j)
		}
		return h.get(i, j-g.cols)
	})
}

// symmetric is asked of square grids alone.
func (g grid) symmetric() bool {
	for i := range g.rows {
		for j := range i {
			if g.get(i, j).Compare(g.get(j, i)) != 0 {
				return false
			}
		}
	}
	return true
}
