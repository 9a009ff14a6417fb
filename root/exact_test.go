package root_test

import (
	"math/big"

	"binnacle/api"
)

// digits are enough for all that is reckoned exactly here; a step that needs more stops the test.
const digits = 20000

// roomFor is how many digits a length is reckoned with: it is seldom exact.
const roomFor = 400

func exactly(x float64) *big.Float { return new(big.Float).SetPrec(digits).SetFloat64(x) }

func nought() *big.Float { return exactly(0) }

// sure lets an exact number through.
func sure(x *big.Float) *big.Float {
	if x.Acc() != big.Exact {
		panic("not exact")
	}
	return x
}

func sum(a, b *big.Float) *big.Float {
	return sure(new(big.Float).SetPrec(digits).Add(a, b))
}

func gap(a, b *big.Float) *big.Float {
	return sure(new(big.Float).SetPrec(digits).Sub(a, b))
}

func product(a, b *big.Float) *big.Float {
	return sure(new(big.Float).SetPrec(digits).Mul(a, b))
}

func amount(a *big.Float) *big.Float { return new(big.Float).SetPrec(digits).Abs(a) }

// byTwo is a times 2^k.
func byTwo(a *big.Float, k int) *big.Float {
	return sure(new(big.Float).SetPrec(digits).SetMantExp(a, k))
}

// grid is a matrix of exact numbers.
type grid struct {
	rows, cols int
	at         []*big.Float
}

func (m grid) get(i, j int) *big.Float { return m.at[i*m.cols+j] }

func exactMat(m api.Mat) grid {
	out := grid{rows: m.Rows, cols: m.Cols}
	for _, x := range m.At {
		out.at = append(out.at, exactly(x))
	}
	return out
}

func exactColumn(x []float64) grid { return exactMat(mat(len(x), 1, x...)) }

func turned(m grid) grid {
	out := grid{rows: m.cols, cols: m.rows}
	for j := range m.cols {
		for i := range m.rows {
			out.at = append(out.at, m.get(i, j))
		}
	}
	return out
}

func joined(a, b grid) grid {
	out := grid{rows: a.rows, cols: b.cols}
	for i := range a.rows {
		for j := range b.cols {
			x := nought()
			for k := range a.cols {
				x = sum(x, product(a.get(i, k), b.get(k, j)))
			}
			out.at = append(out.at, x)
		}
	}
	return out
}

// squared is m m'.
func squared(m grid) grid { return joined(m, turned(m)) }

func added(a, b grid) grid {
	out := grid{rows: a.rows, cols: a.cols}
	for k := range a.at {
		out.at = append(out.at, sum(a.at[k], b.at[k]))
	}
	return out
}

// lengths are how long the rows of m are.
func lengths(m grid) []*big.Float {
	square := squared(m)
	var out []*big.Float
	for i := range m.rows {
		out = append(out, new(big.Float).SetPrec(roomFor).Sqrt(square.get(i, i)))
	}
	return out
}

// behind is the exact covariance behind an update by a row, times the row's exact variance; and that variance.
func behind(l api.Mat, h []float64, r float64) (grid, *big.Float) {
	p := squared(exactMat(l))
	along := joined(p, exactColumn(h))
	variance := sum(joined(turned(exactColumn(h)), along).get(0, 0), exactly(r))
	taken := squared(along)
	out := grid{rows: p.rows, cols: p.cols}
	for k := range p.at {
		out.at = append(out.at, gap(product(p.at[k], variance), taken.at[k]))
	}
	return out, variance
}

// isWithin tells whether each number (i, j) of a and b differs by at most 2^-36 * e(i) * e(j), by being times something.
func isWithin(a, b grid, e []*big.Float, by *big.Float) bool {
	for i := range a.rows {
		for j := range a.cols {
			bound := new(big.Float).SetPrec(roomFor).Mul(e[i], e[j])
			bound.Mul(bound, by)
			if amount(gap(a.get(i, j), b.get(i, j))).Cmp(byTwo(bound, -36)) > 0 {
				return false
			}
		}
	}
	return true
}

// scaledBy is a grid times a number.
func scaledBy(m grid, by *big.Float) grid {
	out := grid{rows: m.rows, cols: m.cols}
	for _, x := range m.at {
		out.at = append(out.at, product(x, by))
	}
	return out
}

// isSized tells whether numbers are 0 or from 2^-200 to 2^200 in amount.
func isSized(l ...float64) bool {
	for _, x := range l {
		if x != 0 && (x < 0x1p-200 && x > -0x1p-200 || x > 0x1p200 || x < -0x1p200) {
			return false
		}
	}
	return true
}

// seesLittle is P16.8's premise: the sum of the e(i) times the amounts of h(i) is at most 2^8 times the root of r.
func seesLittle(e []*big.Float, h []float64, r float64) bool {
	all := new(big.Float).SetPrec(roomFor)
	for i := range h {
		all.Add(all, new(big.Float).SetPrec(roomFor).Mul(e[i], amount(exactly(h[i]))))
	}
	most := new(big.Float).SetPrec(roomFor).Sqrt(exactly(r))
	return all.Cmp(byTwo(most, 8)) <= 0
}
