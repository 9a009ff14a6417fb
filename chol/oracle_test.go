package chol_test

import (
	"math"
	"math/big"

	"binnacle/api"
	"binnacle/interval"
)

func isFinite(x float64) bool { return !math.IsNaN(x) && !math.IsInf(x, 0) }

func fraction(x float64) *big.Rat { return new(big.Rat).SetFloat64(x) }

func isMinus(x float64) bool { return math.Signbit(x) }

// beyond is what a step that isn't finite stops the reckoning with.
type beyond struct{}

// step is a fraction rounded once, with the sign that a nought is to have; it stops the reckoning if that isn't finite.
func step(x *big.Rat, neg bool) float64 {
	out, _ := x.Float64()
	if !isFinite(out) {
		panic(beyond{})
	}
	if out == 0 && neg {
		return minus
	}
	return out
}

// less is a - b; a nought that comes of unlike numbers can't be, and of alike ones it is +0.
func less(a, b float64) float64 {
	return step(new(big.Rat).Sub(fraction(a), fraction(b)), a == 0 && isMinus(a) && b == 0 && !isMinus(b))
}

func plus(a, b float64) float64 { return less(a, -b) }

func times(a, b float64) float64 {
	return step(new(big.Rat).Mul(fraction(a), fraction(b)), isMinus(a) != isMinus(b))
}

func over(a, b float64) float64 {
	return step(new(big.Rat).Quo(fraction(a), fraction(b)), isMinus(a) != isMinus(b))
}

// root has digits enough: no root of a number lies so near to the middle of two.
func root(a float64) float64 {
	x, _ := new(big.Float).Sqrt(new(big.Float).SetPrec(300).SetFloat64(a)).Float64()
	return x
}

// question is what is handed in; each call takes what it needs.
type question struct {
	a, b api.Mat
	x    []float64
}

// answer is all that a call may say.
type answer struct {
	err   api.Errno
	place int
	m     api.Mat
	list  []float64
	spans []api.Interval
	x     float64
	yes   bool
}

func (a answer) is(b answer) bool {
	return a.err == b.err && a.place == b.place && sameMat(a.m, b.m) && sameList(a.list, b.list) && sameSpans(a.spans, b.spans) && sameNumber(a.x, b.x) && a.yes == b.yes
}

func fault(e api.Errno) answer { return answer{err: e} }

func faultAt(e api.Errno, place int) answer { return answer{err: e, place: place} }

// refusal is how a word's reckoning ends early.
type refusal struct {
	err   api.Errno
	place int
}

// refuse ends the reckoning, if something is so.
func refuse(so bool, e api.Errno, place int) {
	if so {
		panic(refusal{e, place})
	}
}

// reckoned is what a reckoning comes to: its answer, its refusal, or ErrOver.
func reckoned(of func() answer) (out answer) {
	defer func() {
		switch x := recover().(type) {
		case nil:
		case beyond:
			out = fault(api.ErrOver)
		case refusal:
			out = faultAt(x.err, x.place)
		default:
			panic(x)
		}
	}()
	return of()
}

// isGood ends the reckoning if a matrix isn't: P8.
func isGood(m api.Mat) {
	refuse(m.Rows < 0 || m.Rows > 12 || m.Cols < 0 || m.Cols > 12, api.ErrRange, 0)
	refuse(m.Rows*m.Cols != len(m.At), api.ErrShape, 0)
	areNumbers(m.At)
}

func areNumbers(l []float64) {
	for _, x := range l {
		refuse(!isFinite(x), api.ErrNumber, 0)
	}
}

func isSquare(m api.Mat) {
	isGood(m)
	refuse(m.Rows != m.Cols, api.ErrShape, 0)
}

func isSymmetric(m api.Mat) {
	isSquare(m)
	for i := 0; i < m.Rows; i++ {
		for j := 0; j < m.Cols; j++ {
			refuse(!sameNumber(number(m, i, j), number(m, j, i)), api.ErrSymmetric, 0)
		}
	}
}

func isRoot(m api.Mat) {
	isSquare(m)
	for i := 0; i < m.Rows; i++ {
		for j := 0; j < m.Cols; j++ {
			refuse(i < j && !sameNumber(number(m, i, j), 0), api.ErrTriangle, 0)
			refuse(i == j && !(number(m, i, j) > 0), api.ErrTriangle, 0)
		}
	}
}

func goesWith(b []float64, rows int) {
	refuse(len(b) != rows, api.ErrShape, 0)
	areNumbers(b)
}

// number is that of row i and column j.
func number(m api.Mat, i, j int) float64 { return m.At[i*m.Cols+j] }

func colOf(m api.Mat, j int) []float64 {
	var out []float64
	for i := 0; i < m.Rows; i++ {
		out = append(out, number(m, i, j))
	}
	return out
}

func table(rows, cols int, of func(i, j int) float64) api.Mat {
	out := mat(rows, cols)
	for k := 0; k < rows*cols; k++ {
		out.At = append(out.At, of(k/cols, k%cols))
	}
	return out
}

// belowDiagonal asks for the place from the diagonal down.
func belowDiagonal(of func(i, j int) float64) func(i, j int) float64 {
	return func(i, j int) float64 { return of(max(i, j), min(i, j)) }
}

// grid is a square matrix that is written into.
type grid [12][12]float64

func (g *grid) mat(n int) api.Mat {
	return table(n, n, func(i, j int) float64 { return g[i][j] })
}

// wordsOfChol: P9.1.
func wordsOfChol(a api.Mat) api.Mat {
	isSymmetric(a)
	var l grid
	for j := 0; j < a.Rows; j++ {
		d := number(a, j, j)
		for k := 0; k < j; k++ {
			d = less(d, times(l[j][k], l[j][k]))
		}
		refuse(!(d > 0), api.ErrPositive, j)
		l[j][j] = root(d)
		for i := j + 1; i < a.Rows; i++ {
			t := number(a, i, j)
			for k := 0; k < j; k++ {
				t = less(t, times(l[i][k], l[j][k]))
			}
			l[i][j] = over(t, l[j][j])
		}
	}
	return l.mat(a.Rows)
}

// wordsOfLDL: P9.2.
func wordsOfLDL(a api.Mat) (api.Mat, []float64) {
	isSymmetric(a)
	var l grid
	var ds []float64
	for j := 0; j < a.Rows; j++ {
		d := number(a, j, j)
		for k := 0; k < j; k++ {
			d = less(d, times(times(l[j][k], l[j][k]), ds[k]))
		}
		refuse(d == 0, api.ErrPivot, j)
		ds = append(ds, d)
		l[j][j] = 1
		for i := j + 1; i < a.Rows; i++ {
			t := number(a, i, j)
			for k := 0; k < j; k++ {
				t = less(t, times(times(l[i][k], l[j][k]), ds[k]))
			}
			l[i][j] = over(t, d)
		}
	}
	return l.mat(a.Rows), ds
}

// wordsOfLower and wordsOfUpper: P9.3.
func wordsOfLower(l api.Mat, b []float64) []float64 {
	isRoot(l)
	goesWith(b, l.Rows)
	x := make([]float64, len(b))
	for i := 0; i < len(b); i++ {
		t := b[i]
		for k := 0; k <= i-1; k++ {
			t = less(t, times(number(l, i, k), x[k]))
		}
		x[i] = over(t, number(l, i, i))
	}
	return x
}

func wordsOfUpper(l api.Mat, b []float64) []float64 {
	isRoot(l)
	goesWith(b, l.Rows)
	x := make([]float64, len(b))
	for i := len(b) - 1; i >= 0; i-- {
		t := b[i]
		for k := i + 1; k < len(b); k++ {
			t = less(t, times(number(l, k, i), x[k]))
		}
		x[i] = over(t, number(l, i, i))
	}
	return x
}

// wordsOfSolve, wordsOfSolveMat and wordsOfInverse: P9.4.
func wordsOfSolve(a api.Mat, b []float64) []float64 {
	isSquare(a)
	goesWith(b, a.Rows)
	l := wordsOfChol(a)
	return wordsOfUpper(l, wordsOfLower(l, b))
}

func wordsOfSolveMat(a, b api.Mat) api.Mat {
	isSquare(a)
	isGood(b)
	refuse(a.Rows != b.Rows, api.ErrShape, 0)
	l := wordsOfChol(a)
	out := table(b.Rows, b.Cols, func(i, j int) float64 { return nan })
	for j := 0; j < b.Cols; j++ {
		for i, x := range wordsOfUpper(l, wordsOfLower(l, colOf(b, j))) {
			out.At[i*b.Cols+j] = x
		}
	}
	return out
}

func wordsOfInverse(a api.Mat) api.Mat {
	l := wordsOfChol(a)
	var out grid
	for j := 0; j < a.Rows; j++ {
		unit := make([]float64, a.Rows)
		unit[j] = 1
		x := wordsOfUpper(l, wordsOfLower(l, unit))
		for i := j; i < a.Rows; i++ {
			out[i][j], out[j][i] = x[i], x[i]
		}
	}
	return out.mat(a.Rows)
}

// wordsOfDet: P9.5.
func wordsOfDet(a api.Mat) float64 {
	l := wordsOfChol(a)
	p := 1.0
	for j := 0; j < a.Rows; j++ {
		p = times(times(p, number(l, j, j)), number(l, j, j))
	}
	return p
}

// wordsOfSquare: P9.6.
func wordsOfSquare(l api.Mat) api.Mat {
	isRoot(l)
	return table(l.Rows, l.Rows, belowDiagonal(func(i, j int) float64 {
		s := 0.0
		for k := 0; k <= j; k++ {
			s = plus(s, times(number(l, i, k), number(l, j, k)))
		}
		return s
	}))
}

// wordsOfPivots: P9.7, in the intervals of chapter 6.
func wordsOfPivots(a api.Mat) []api.Interval {
	isSymmetric(a)
	var l [12][12]api.Interval
	var ds []api.Interval
	point := func(i, j int) api.Interval { return api.Interval{Lo: number(a, i, j), Hi: number(a, i, j)} }
	for j := 0; j < a.Rows; j++ {
		d := point(j, j)
		for k := 0; k < j; k++ {
			d = interval.Sub(d, interval.Mul(interval.Mul(l[j][k], l[j][k]), ds[k]))
		}
		refuse(d.Lo <= 0 && d.Hi >= 0, api.ErrPivot, j)
		ds = append(ds, d)
		for i := j + 1; i < a.Rows; i++ {
			t := point(i, j)
			for k := 0; k < j; k++ {
				t = interval.Sub(t, interval.Mul(interval.Mul(l[i][k], l[j][k]), ds[k]))
			}
			l[i][j] = interval.Div(t, d)
		}
	}
	return ds
}

// wordsOfVerified: P9.8; what Pivots refuses for a pivot isn't verified, what isn't symmetric is refused.
func wordsOfVerified(a api.Mat) bool {
	isSymmetric(a)
	pivots := reckoned(func() answer { return answer{spans: wordsOfPivots(a)} })
	for _, d := range pivots.spans {
		if !(d.Lo > 0) {
			return false
		}
	}
	return pivots.err == api.OK
}
