package exact

import (
	"slices"

	"binnacle/api"
	"binnacle/big"
)

// Grid is a matrix of fractions, row by row. No call changes one.
type Grid struct {
	rows, cols int
	at         []big.Rat
}

// Filled is a grid whose fractions are told place by place.
func Filled(rows, cols int, tell func(i, j int) big.Rat) Grid {
	out := Grid{rows, cols, make([]big.Rat, 0, rows*cols)}
	for i := range rows {
		for j := range cols {
			out.at = append(out.at, tell(i, j))
		}
	}
	return out
}

// Mirrored is a symmetric grid of which the fractions from the diagonal down are told.
func Mirrored(n int, tell func(i, j int) big.Rat) Grid {
	out := Grid{n, n, make([]big.Rat, n*n)}
	for i := range n {
		for j := range i + 1 {
			f := tell(i, j)
			out.at[i*n+j], out.at[j*n+i] = f, f
		}
	}
	return out
}

// ReadMat is the grid of a fraction matrix, or why that isn't good.
func ReadMat(m api.FracMat) (Grid, api.Errno) {
	if !within(m.Rows) || !within(m.Cols) {
		return Grid{}, api.ErrRange
	}
	if len(m.At) != m.Rows*m.Cols {
		return Grid{}, api.ErrShape
	}
	list, is := ReadList(m.At)
	if !is {
		return Grid{}, api.ErrFrac
	}
	return Grid{m.Rows, m.Cols, list.at}, api.OK
}

// ReadList is the column of a list of fractions; false, if one of its texts is none.
func ReadList(l []api.Frac) (Grid, bool) {
	out := Grid{len(l), 1, make([]big.Rat, len(l))}
	for i, text := range l {
		f, is := Read(text)
		if !is {
			return Grid{}, false
		}
		out.at[i] = f
	}
	return out, true
}

func within(n int) bool {
	return n >= 0 && n <= api.MaxDim
}

func one() big.Int { return big.Whole(false, 1) }

// Unit is the unit matrix.
func Unit(n int) Grid {
	return Filled(n, n, func(i, j int) big.Rat {
		if i == j {
			return big.Ratio(one(), one())
		}
		return big.Ratio(big.Int{}, one())
	})
}

// Rows is how many rows it has.
func (g Grid) Rows() int { return g.rows }

// Cols is how many columns it has.
func (g Grid) Cols() int { return g.cols }

// At is the fraction at a place.
func (g Grid) At(i, j int) big.Rat { return g.at[i*g.cols+j] }

// Row is one of its rows, as a grid of one row.
func (g Grid) Row(i int) Grid { return Grid{1, g.cols, g.at[i*g.cols : (i+1)*g.cols]} }

// All are its fractions, row by row.
func (g Grid) All() []big.Rat { return slices.Clone(g.at) }

// IsSquare tells whether it has as many rows as columns.
func (g Grid) IsSquare() bool { return g.rows == g.cols }

// IsShapedAs tells whether it has as many rows and columns as another one.
func (g Grid) IsShapedAs(h Grid) bool { return g.rows == h.rows && g.cols == h.cols }

// Turned has rows and columns exchanged.
func (g Grid) Turned() Grid {
	return Filled(g.cols, g.rows, func(i, j int) big.Rat { return g.At(j, i) })
}

// Each is a grid of what becomes of each fraction.
func (g Grid) Each(how func(x big.Rat) big.Rat) Grid {
	return Filled(g.rows, g.cols, func(i, j int) big.Rat { return how(g.At(i, j)) })
}

// with joins two grids of one shape place by place.
func (g Grid) with(h Grid, how func(x, y big.Rat) big.Rat) Grid {
	return Filled(g.rows, g.cols, func(i, j int) big.Rat { return how(g.At(i, j), h.At(i, j)) })
}

// Plus is the sum with a grid of one shape.
func (g Grid) Plus(h Grid) Grid { return g.with(h, big.Rat.Plus) }

// Minus is the difference from a grid of one shape.
func (g Grid) Minus(h Grid) Grid { return g.with(h, big.Rat.Minus) }

// Times is the product with a grid that has as many rows as this one has columns.
func (g Grid) Times(h Grid) Grid {
	left, right := g.cleared(), h.Turned().cleared()
	return Filled(g.rows, h.cols, func(i, j int) big.Rat { return dot(left, right, i, j) })
}

// Sandwich is G H G' of a symmetric H that has as many rows as this one has columns.
func (g Grid) Sandwich(h Grid) Grid {
	left, right := g.Times(h).Lowest().cleared(), g.cleared()
	return Mirrored(g.rows, func(i, j int) big.Rat { return dot(left, right, i, j) })
}

// dot is the product of a row of one table with a row of another one, as the grids had them.
func dot(left, right *table, i, j int) big.Rat {
	var sum big.Int
	x, y := left.row(i), right.row(j)
	for k := range x {
		sum = sum.Plus(x[k].Times(y[k]))
	}
	return big.Ratio(sum, left.scales[i].Times(right.scales[j]))
}

// beside is a grid with the columns of another one, of as many rows, behind its own.
func (g Grid) beside(h Grid) Grid {
	return Filled(g.rows, g.cols+h.cols, func(i, j int) big.Rat {
		if j < g.cols {
			return g.At(i, j)
		}
		return h.At(i, j-g.cols)
	})
}

// Lowest is a grid with its fractions in lowest terms.
func (g Grid) Lowest() Grid { return g.Each(Lowest) }

// IsSymmetric is asked of square grids alone.
func (g Grid) IsSymmetric() bool {
	for i := range g.rows {
		for j := range i {
			if g.At(i, j).Compare(g.At(j, i)) != 0 {
				return false
			}
		}
	}
	return true
}

// Solve is the X with G X = H, of a square G that has as many rows as H; false, if G has no inverse.
func (g Grid) Solve(h Grid) (Grid, bool) { return g.beside(h).cleared().solve() }

// Det is the determinant of a square grid.
func (g Grid) Det() big.Rat {
	t := g.cleared()
	below := one()
	for _, scale := range t.scales {
		below = below.Times(scale)
	}
	return big.Ratio(t.det(), below)
}

// Rank is how many of its rows hang on none of the others.
func (g Grid) Rank() int { return g.cleared().rank() }

// Sign is how a symmetric grid stands to 0.
func (g Grid) Sign() api.Sign { return g.cleared().sign() }

// Fitted is a grid with its fractions in lowest terms; false, if one of them is too great for a text.
func (g Grid) Fitted() (Grid, bool) {
	out := Grid{g.rows, g.cols, make([]big.Rat, len(g.at))}
	for i, f := range g.at {
		fitted, fits := Fitted(f)
		if !fits {
			return Grid{}, false
		}
		out.at[i] = fitted
	}
	return out, true
}

// Texts are the fractions of a grid that are in lowest terms, row by row.
func (g Grid) Texts() []api.Frac {
	out := make([]api.Frac, len(g.at))
	for i, f := range g.at {
		out[i] = Text(f)
	}
	return out
}

// TextMat is the fraction matrix of a grid whose fractions are in lowest terms.
func (g Grid) TextMat() api.FracMat {
	return api.FracMat{Rows: g.rows, Cols: g.cols, At: g.Texts()}
}
