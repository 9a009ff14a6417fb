package rational_test

import (
	"math"
	"math/big"
	"math/bits"
	"regexp"

	"binnacle/api"
)

// The chapter's words in big.Rat, by ways that the program does not go: determinants as sums of products, signs by all minors on the diagonal.

// refusal is an error by which the words end.
type refusal struct{ err api.Errno }

func refuse(when bool, err api.Errno) {
	if when {
		panic(refusal{err})
	}
}

// reckoned is the answer of some words, or their error.
func reckoned(of func() answer) (out answer) {
	defer func() {
		if r := recover(); r != nil {
			out = answer{err: r.(refusal).err}
		}
	}()
	return of()
}

var form = regexp.MustCompile(`^(0|-?[1-9][0-9]*)(/[1-9][0-9]*)?$`)

// ratOf is the fraction of a text that is one.
func ratOf(f api.Frac) *big.Rat {
	out, ok := new(big.Rat).SetString(string(f))
	if !ok {
		panic("no fraction: " + f)
	}
	return out
}

// textOf is a fraction's text.
func textOf(x *big.Rat) api.Frac { return api.Frac(x.RatString()) }

func fits(x *big.Rat) bool {
	return x.Num().BitLen() <= api.MaxBits && x.Denom().BitLen() <= api.MaxBits
}

func wordsIs(f api.Frac) bool {
	if !form.MatchString(string(f)) || len(f) > 3*api.MaxBits {
		return false
	}
	x, ok := new(big.Rat).SetString(string(f))
	return ok && textOf(x) == f && fits(x)
}

func taken(f api.Frac) *big.Rat {
	refuse(!wordsIs(f), api.ErrFrac)
	return ratOf(f)
}

func told(x *big.Rat) api.Frac {
	refuse(!fits(x), api.ErrLong)
	return textOf(x)
}

func wordsMake(a, b int64) api.Frac {
	refuse(b == 0, api.ErrSingular)
	return told(new(big.Rat).SetFrac(big.NewInt(a), big.NewInt(b)))
}

func wordsOf(x float64) api.Frac {
	refuse(!isFinite(x), api.ErrNumber)
	return told(new(big.Rat).SetFloat64(x))
}

func nearest(x *big.Rat) float64 {
	out, _ := x.Float64()
	refuse(math.IsInf(out, 0), api.ErrOver)
	return out
}

func wordsDiv(f, g api.Frac) api.Frac {
	x, y := taken(f), taken(g)
	refuse(y.Sign() == 0, api.ErrSingular)
	return told(x.Quo(x, y))
}

// rats is a matrix within the words.
type rats [][]*big.Rat

func takenMat(m api.FracMat) rats {
	refuse(m.Rows < 0 || m.Rows > api.MaxDim || m.Cols < 0 || m.Cols > api.MaxDim, api.ErrRange)
	refuse(len(m.At) != m.Rows*m.Cols, api.ErrShape)
	return made(m.Rows, m.Cols, func(i, j int) *big.Rat { return taken(m.At[i*m.Cols+j]) })
}

func takenNumbers(m api.Mat) rats {
	refuse(m.Rows < 0 || m.Rows > api.MaxDim || m.Cols < 0 || m.Cols > api.MaxDim, api.ErrRange)
	refuse(len(m.At) != m.Rows*m.Cols, api.ErrShape)
	return made(m.Rows, m.Cols, func(i, j int) *big.Rat {
		refuse(!isFinite(m.At[i*m.Cols+j]), api.ErrNumber)
		return new(big.Rat).SetFloat64(m.At[i*m.Cols+j])
	})
}

func made(rows, cols int, tell func(i, j int) *big.Rat) rats {
	out := make(rats, rows)
	for i := range out {
		out[i] = make([]*big.Rat, cols)
		for j := range out[i] {
			out[i][j] = tell(i, j)
		}
	}
	return out
}

func toldMat(rows, cols int, tell func(i, j int) *big.Rat) api.FracMat {
	return grid(rows, cols, func(i, j int) api.Frac { return told(tell(i, j)) })
}

func wordsTurn(m api.FracMat) api.FracMat {
	x := takenMat(m)
	return toldMat(m.Cols, m.Rows, func(i, j int) *big.Rat { return x[j][i] })
}

func wordsAdd(a, b api.FracMat) api.FracMat {
	x, y := takenMat(a), takenMat(b)
	refuse(a.Rows != b.Rows || a.Cols != b.Cols, api.ErrShape)
	return toldMat(a.Rows, a.Cols, func(i, j int) *big.Rat { return new(big.Rat).Add(x[i][j], y[i][j]) })
}

func wordsSub(a, b api.FracMat) api.FracMat {
	x, y := takenMat(a), takenMat(b)
	refuse(a.Rows != b.Rows || a.Cols != b.Cols, api.ErrShape)
	return toldMat(a.Rows, a.Cols, func(i, j int) *big.Rat { return new(big.Rat).Sub(x[i][j], y[i][j]) })
}

func wordsMul(a, b api.FracMat) api.FracMat {
	x, y := takenMat(a), takenMat(b)
	refuse(a.Cols != b.Rows, api.ErrShape)
	return toldMat(a.Rows, b.Cols, func(i, j int) *big.Rat {
		sum := new(big.Rat)
		for k := range y {
			sum.Add(sum, new(big.Rat).Mul(x[i][k], y[k][j]))
		}
		return sum
	})
}

func wordsScale(f api.Frac, a api.FracMat) api.FracMat {
	by := taken(f)
	x := takenMat(a)
	return toldMat(a.Rows, a.Cols, func(i, j int) *big.Rat { return new(big.Rat).Mul(by, x[i][j]) })
}

// det goes over the first row's columns, and over those of the smaller determinants.
func det(x rats) *big.Rat {
	if len(x) == 0 {
		return big.NewRat(1, 1)
	}
	sum := new(big.Rat)
	for j, f := range x[0] {
		if f.Sign() == 0 {
			continue
		}
		part := det(without(x, 0, j))
		if part.Mul(part, f); j%2 == 1 {
			part.Neg(part)
		}
		sum.Add(sum, part)
	}
	return sum
}

// without is a matrix that lacks a row and a column.
func without(x rats, row, col int) rats {
	return made(len(x)-1, len(x)-1, func(i, j int) *big.Rat {
		if i >= row {
			i++
		}
		if j >= col {
			j++
		}
		return x[i][j]
	})
}

// picked are some rows and columns, by the bits of two masks.
func picked(x rats, rows, cols int) rats {
	var out rats
	for i := range x {
		if rows>>i&1 == 0 {
			continue
		}
		var row []*big.Rat
		for j := range x[i] {
			if cols>>j&1 == 1 {
				row = append(row, x[i][j])
			}
		}
		out = append(out, row)
	}
	return out
}

// wordsSolve is Cramer's rule.
func wordsSolve(a, b api.FracMat) api.FracMat {
	x, y := takenMat(a), takenMat(b)
	return solved(x, y, a, b.Rows, b.Cols)
}

func solved(x, y rats, a api.FracMat, rows, cols int) api.FracMat {
	refuse(a.Rows != a.Cols || rows != a.Rows, api.ErrShape)
	d := det(x)
	refuse(d.Sign() == 0, api.ErrSingular)
	return toldMat(rows, cols, func(i, j int) *big.Rat {
		part := det(made(rows, rows, func(k, l int) *big.Rat {
			if l == i {
				return y[k][j]
			}
			return x[k][l]
		}))
		return part.Quo(part, d)
	})
}

func wordsInverse(a api.FracMat) api.FracMat {
	x := takenMat(a)
	return solved(x, takenMat(eye(a.Rows)), a, a.Rows, a.Rows)
}

func wordsDet(a api.FracMat) api.Frac {
	x := takenMat(a)
	refuse(a.Rows != a.Cols, api.ErrShape)
	return told(det(x))
}

// wordsRank is the size of the greatest determinant of rows and columns that isn't 0.
func wordsRank(a api.FracMat) int {
	x := takenMat(a)
	for rank := min(a.Rows, a.Cols); rank > 0; rank-- {
		for rows := range 1 << a.Rows {
			for cols := range 1 << a.Cols {
				if bits.OnesCount(uint(rows)) == rank && bits.OnesCount(uint(cols)) == rank && det(picked(x, rows, cols)).Sign() != 0 {
					return rank
				}
			}
		}
	}
	return 0
}

// signOf is by the minors on the diagonal: all of them above 0, or none below 0.
func signOf(x rats) api.Sign {
	for i := range x {
		refuse(len(x[i]) != len(x), api.ErrShape)
	}
	for i := range x {
		for j := range i {
			refuse(x[i][j].Cmp(x[j][i]) != 0, api.ErrFracSym)
		}
	}
	out := api.SignPositive
	for some := range 1 << len(x) {
		switch det(picked(x, some, some)).Sign() {
		case 0:
			out = api.SignSemi
		case -1:
			return api.SignOther
		}
	}
	return out
}

func wordsSign(a api.FracMat) api.Sign {
	x := takenMat(a)
	refuse(a.Rows != a.Cols, api.ErrShape)
	return signOf(x)
}

func wordsSignMat(m api.Mat) api.Sign {
	x := takenNumbers(m)
	refuse(m.Rows != m.Cols, api.ErrShape)
	return signOf(x)
}

func atMost(x, y rats, rows, cols, otherRows, otherCols int) bool {
	refuse(rows != cols || otherRows != otherCols || rows != otherRows, api.ErrShape)
	signOf(x)
	signOf(y)
	return signOf(made(rows, rows, func(i, j int) *big.Rat { return new(big.Rat).Sub(y[i][j], x[i][j]) })) != api.SignOther
}

func wordsAtMost(a, b api.FracMat) bool {
	x, y := takenMat(a), takenMat(b)
	return atMost(x, y, a.Rows, a.Cols, b.Rows, b.Cols)
}

func wordsAtMostMat(a, b api.Mat) bool {
	x, y := takenNumbers(a), takenNumbers(b)
	return atMost(x, y, a.Rows, a.Cols, b.Rows, b.Cols)
}
