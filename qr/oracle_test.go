package qr_test

import (
	"math"
	"math/big"

	"binnacle/api"
)

func isFinite(x float64) bool { return !math.IsNaN(x) && !math.IsInf(x, 0) }

func fraction(x float64) *big.Rat { return new(big.Rat).SetFloat64(x) }

func isMinus(x float64) bool { return math.Signbit(x) }

// beyond is what a step that isn't finite stops the reckoning with.
type beyond struct{}

// step is a fraction rounded once, with the sign that a nought is to have; it stops the reckoning if that isn't finite.
func step(x *big.Rat, neg bool) float64 {
	out, _ := x.Float64()
	if !isFinite(out) {
		panic(beyond{})
	}
	if out == 0 && neg {
		return minus
	}
	return out
}

// less is a - b; a nought that comes of unlike numbers can't be, and of alike ones it is +0.
func less(a, b float64) float64 {
	return step(new(big.Rat).Sub(fraction(a), fraction(b)), a == 0 && isMinus(a) && b == 0 && !isMinus(b))
}

func plus(a, b float64) float64 { return less(a, -b) }

func times(a, b float64) float64 {
	return step(new(big.Rat).Mul(fraction(a), fraction(b)), isMinus(a) != isMinus(b))
}

func over(a, b float64) float64 {
	return step(new(big.Rat).Quo(fraction(a), fraction(b)), isMinus(a) != isMinus(b))
}

// root has digits enough: no root of a number lies so near to the middle of two.
func root(a float64) float64 {
	x, _ := new(big.Float).Sqrt(new(big.Float).SetPrec(300).SetFloat64(a)).Float64()
	return x
}

// two is 2^k as a fraction.
func two(k int) *big.Rat {
	p := new(big.Int).Lsh(big.NewInt(1), uint(max(k, -k)))
	if k < 0 {
		return new(big.Rat).SetFrac(big.NewInt(1), p)
	}
	return new(big.Rat).SetInt(p)
}

// timesTwo is x times 2^k, taken exactly and rounded once.
func timesTwo(x float64, k int) float64 {
	return step(new(big.Rat).Mul(fraction(x), two(k)), isMinus(x))
}

// dotOf is a dot product in order.
func dotOf(x, y []float64) float64 {
	s := 0.0
	for i := 0; i < len(x); i++ {
		s = plus(s, times(x[i], y[i]))
	}
	return s
}

// question is what is handed in; each call takes what it needs.
type question struct {
	m    api.Mat
	l    []api.Mat
	x    []float64
	i, k int
	a, b float64
}

// answer is all that a call may say.
type answer struct {
	err     api.Errno
	m, r    api.Mat
	list    []float64
	a, b, c float64
}

func (a answer) is(b answer) bool {
	return a.err == b.err && sameMat(a.m, b.m) && sameMat(a.r, b.r) && sameList(a.list, b.list) && sameNumber(a.a, b.a) && sameNumber(a.b, b.b) && sameNumber(a.c, b.c)
}

func fault(e api.Errno) answer { return answer{err: e} }

// refusal is how a word's reckoning ends early.
type refusal struct{ err api.Errno }

// refuse ends the reckoning, if something is so.
func refuse(so bool, e api.Errno) {
	if so {
		panic(refusal{e})
	}
}

// reckoned is what a reckoning comes to: its answer, its refusal, or ErrOver.
func reckoned(of func() answer) (out answer) {
	defer func() {
		switch x := recover().(type) {
		case nil:
		case beyond:
			out = fault(api.ErrOver)
		case refusal:
			out = fault(x.err)
		default:
			panic(x)
		}
	}()
	return of()
}

// isGood ends the reckoning if a matrix isn't: P8.
func isGood(m api.Mat) {
	refuse(m.Rows < 0 || m.Rows > 12 || m.Cols < 0 || m.Cols > 12, api.ErrRange)
	refuse(m.Rows*m.Cols != len(m.At), api.ErrShape)
	areNumbers(m.At)
}

func areNumbers(l []float64) {
	for _, x := range l {
		refuse(!isFinite(x), api.ErrNumber)
	}
}

// isList ends the reckoning if a list may not be.
func isList(x []float64) {
	refuse(len(x) > 48, api.ErrRange)
	areNumbers(x)
}

// number is that of row i and column j.
func number(m api.Mat, i, j int) float64 { return m.At[i*m.Cols+j] }

func table(rows, cols int, of func(i, j int) float64) api.Mat {
	out := mat(rows, cols)
	for k := 0; k < rows*cols; k++ {
		out.At = append(out.At, of(k/cols, k%cols))
	}
	return out
}

// powerOf is the k for which the greatest amount is at least 2^k and below 2^(k + 1); false, if all are 0.
func powerOf(x []float64) (int, bool) {
	greatest := 0.0
	for _, a := range x {
		if math.Abs(a) > greatest {
			greatest = math.Abs(a)
		}
	}
	if greatest == 0 {
		return 0, false
	}
	k := -1074
	for greatest >= math.Ldexp(1, k+1) {
		k++
	}
	return k, true
}

// small is y and g: the list times 2^-k, and the root of the sum in order of its squares.
func small(x []float64, k int) ([]float64, float64) {
	var y []float64
	for _, a := range x {
		y = append(y, timesTwo(a, -k))
	}
	return y, root(dotOf(y, y))
}

// wordsOfLength: P10.1.
func wordsOfLength(x []float64) float64 {
	isList(x)
	k, some := powerOf(x)
	if !some {
		return 0
	}
	_, g := small(x, k)
	return timesTwo(g, k)
}

// wordsOfGivens and wordsOfRotate: P10.2.
func wordsOfGivens(a, b float64) (float64, float64, float64) {
	areNumbers(list(a, b))
	if b == 0 {
		return 1, 0, a
	}
	if a == 0 {
		return 0, 1, b
	}
	r := wordsOfLength(list(a, b))
	return over(a, r), over(b, r), r
}

func wordsOfRotate(m api.Mat, i, k int, c, s float64) api.Mat {
	isGood(m)
	refuse(i < 0 || k < 0 || i >= m.Rows || k >= m.Rows, api.ErrRange)
	refuse(i == k, api.ErrShape)
	areNumbers(list(c, s))
	out := table(m.Rows, m.Cols, func(i, j int) float64 { return number(m, i, j) })
	for j := 0; j < m.Cols; j++ {
		out.At[i*m.Cols+j] = plus(times(c, number(m, i, j)), times(s, number(m, k, j)))
		out.At[k*m.Cols+j] = less(times(c, number(m, k, j)), times(s, number(m, i, j)))
	}
	return out
}

// wordsOfHouse: P10.3.
func wordsOfHouse(x []float64) ([]float64, float64, float64) {
	isList(x)
	k, some := powerOf(x)
	if !some {
		return make([]float64, len(x)), 0, 0
	}
	y, g := small(x, k)
	b := g
	if !isMinus(y[0]) {
		b = -g
	}
	w := times(g, plus(g, math.Abs(y[0])))
	y[0] = less(y[0], b)
	return y, w, timesTwo(b, k)
}

// mirrorBy is a list mirrored by v and w.
func mirrorBy(a, v []float64, w float64) []float64 {
	t := over(dotOf(a, v), w)
	var out []float64
	for j := range a {
		out = append(out, less(a[j], times(t, v[j])))
	}
	return out
}

// otherSign is a number of a row or column that has the other sign, if that on the diagonal is below 0; a nought is +0.
func otherSign(x, diagonal float64) float64 {
	if x == 0 {
		return 0
	}
	if diagonal < 0 {
		return -x
	}
	return x
}

// wordsOfTriangle: P10.4.
func wordsOfTriangle(l []api.Mat) api.Mat {
	refuse(len(l) == 0, api.ErrRange)
	for _, m := range l {
		isGood(m)
	}
	wide := 0
	for _, m := range l {
		refuse(m.Rows != l[0].Rows, api.ErrShape)
		wide += m.Cols
	}
	refuse(wide > 48, api.ErrLong)
	n := l[0].Rows
	rows := make([][]float64, n)
	for i := range rows {
		for _, m := range l {
			for j := 0; j < m.Cols; j++ {
				rows[i] = append(rows[i], number(m, i, j))
			}
		}
		for len(rows[i]) < n {
			rows[i] = append(rows[i], 0)
		}
	}
	for i := 0; i < n; i++ {
		v, w, alpha := wordsOfHouse(rows[i][i:])
		for below := i + 1; below < n && w != 0; below++ {
			copy(rows[below][i:], mirrorBy(rows[below][i:], v, w))
		}
		for j := i; j < len(rows[i]); j++ {
			rows[i][j] = 0
		}
		rows[i][i] = alpha
	}
	return table(n, n, func(i, j int) float64 { return otherSign(rows[i][j], rows[j][j]) })
}

// mirrorColumn mirrors a column of m from row j on.
func mirrorColumn(m api.Mat, column, j int, v []float64, w float64) {
	for i, x := range mirrorBy(columnFrom(m, column, j), v, w) {
		m.At[(j+i)*m.Cols+column] = x
	}
}

// columnFrom is the numbers of a column from row j on.
func columnFrom(m api.Mat, column, j int) []float64 {
	var out []float64
	for i := j; i < m.Rows; i++ {
		out = append(out, number(m, i, column))
	}
	return out
}

// wordsOfQR: P10.5.
func wordsOfQR(m api.Mat) (q, r api.Mat) {
	isGood(m)
	refuse(m.Rows < m.Cols, api.ErrShape)
	r = table(m.Rows, m.Cols, func(i, j int) float64 { return number(m, i, j) })
	vs, ws := make([][]float64, m.Cols), make([]float64, m.Cols)
	for j := 0; j < m.Cols; j++ {
		v, w, alpha := wordsOfHouse(columnFrom(r, j, j))
		for behind := j + 1; behind < m.Cols && w != 0; behind++ {
			mirrorColumn(r, behind, j, v, w)
		}
		for i := j; i < m.Rows; i++ {
			r.At[i*m.Cols+j] = 0
		}
		r.At[j*m.Cols+j] = alpha
		vs[j], ws[j] = v, w
	}
	q = eye(m.Rows)
	for j := m.Cols - 1; j >= 0; j-- {
		for column := 0; column < m.Rows && ws[j] != 0; column++ {
			mirrorColumn(q, column, j, vs[j], ws[j])
		}
	}
	qOut := table(m.Rows, m.Cols, func(i, j int) float64 { return otherSign(number(q, i, j), number(r, j, j)) })
	rOut := table(m.Cols, m.Cols, func(i, j int) float64 { return otherSign(number(r, i, j), number(r, i, i)) })
	return qOut, rOut
}

// wordsOfLeast: P10.6.
func wordsOfLeast(m api.Mat, b []float64) []float64 {
	isGood(m)
	isList(b)
	refuse(m.Rows < m.Cols, api.ErrShape)
	refuse(len(b) != m.Rows, api.ErrShape)
	q, r := wordsOfQR(m)
	for i := 0; i < m.Cols; i++ {
		refuse(number(r, i, i) == 0, api.ErrRank)
	}
	var d []float64
	for j := 0; j < m.Cols; j++ {
		d = append(d, dotOf(columnFrom(q, j, 0), b))
	}
	x := make([]float64, m.Cols)
	for i := m.Cols - 1; i >= 0; i-- {
		s := 0.0
		for j := i + 1; j < m.Cols; j++ {
			s = plus(s, times(number(r, i, j), x[j]))
		}
		x[i] = over(less(d[i], s), number(r, i, i))
	}
	return x
}
