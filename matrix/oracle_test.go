package matrix_test

import (
	"math"
	"math/big"

	"binnacle/api"
)

// precision is enough for each sum of twelve products to be exact.
const precision = 4600

func exact(x float64) *big.Float { return new(big.Float).SetPrec(precision).SetFloat64(x) }

func nothing() *big.Float { return new(big.Float).SetPrec(precision) }

// plus is a + b by exact numbers, rounded once; what isn't finite is left to the machine.
func plus(a, b float64) float64 {
	switch {
	case !isFinite(a) || !isFinite(b):
		return a + b
	case a == 0 && b == 0:
		return math.Copysign(0, math.Max(math.Copysign(1, a), math.Copysign(1, b)))
	case a == -b:
		return 0
	}
	out, _ := nothing().Add(exact(a), exact(b)).Float64()
	return out
}

// times is a * b by exact numbers, rounded once.
func times(a, b float64) float64 {
	if !isFinite(a) || !isFinite(b) {
		return a * b
	}
	out, _ := nothing().Mul(exact(a), exact(b)).Float64()
	return math.Copysign(out, math.Copysign(1, a)*math.Copysign(1, b))
}

func isFinite(x float64) bool { return x-x == 0 }

// sumInOrder is what the section Words says.
func sumInOrder(l []float64) float64 {
	s := 0.0
	for _, x := range l {
		s = plus(s, x)
	}
	return s
}

func dotInOrder(x, y []float64) float64 {
	var l []float64
	for i := range x {
		l = append(l, times(x[i], y[i]))
	}
	return sumInOrder(l)
}

// question is what is handed in; each call takes what it needs.
type question struct {
	a, b             api.Mat
	x, y             []float64
	grid             [][]float64
	p                []int
	i, j, rows, cols int
	s                float64
}

// answer is all that a call may say.
type answer struct {
	err  api.Errno
	m    api.Mat
	list []float64
	x    [3]float64
	yes  bool
}

func (a answer) is(b answer) bool {
	return a.err == b.err && sameMat(a.m, b.m) && sameList(a.list, b.list) && sameList(a.x[:], b.x[:]) && a.yes == b.yes
}

func fault(e api.Errno) answer { return answer{err: e} }

func truth(yes bool) answer { return answer{yes: yes} }

// wrongMat is what P8 says.
func wrongMat(m api.Mat) api.Errno {
	if m.Rows < 0 || m.Rows > 12 || m.Cols < 0 || m.Cols > 12 {
		return api.ErrRange
	}
	if m.Rows*m.Cols != len(m.At) {
		return api.ErrShape
	}
	return wrongNumbers(m.At...)
}

func wrongNumbers(l ...float64) api.Errno {
	for _, x := range l {
		if !isFinite(x) {
			return api.ErrNumber
		}
	}
	return api.OK
}

func wrongList(l []float64) api.Errno {
	if len(l) > 12 {
		return api.ErrRange
	}
	return wrongNumbers(l...)
}

// when is an error if something is so.
func when(so bool, e api.Errno) api.Errno {
	if so {
		return e
	}
	return api.OK
}

// first is what is told, where several things may be wrong.
func first(l ...api.Errno) api.Errno {
	for _, e := range l {
		if e != api.OK {
			return e
		}
	}
	return api.OK
}

// number is that of row i and column j.
func number(m api.Mat, i, j int) float64 { return m.At[i*m.Cols+j] }

func rowOf(m api.Mat, i int) []float64 {
	var out []float64
	for j := 0; j < m.Cols; j++ {
		out = append(out, number(m, i, j))
	}
	return out
}

func colOf(m api.Mat, j int) []float64 {
	var out []float64
	for i := 0; i < m.Rows; i++ {
		out = append(out, number(m, i, j))
	}
	return out
}

func table(rows, cols int, of func(i, j int) float64) api.Mat {
	out := mat(rows, cols)
	for k := 0; k < rows*cols; k++ {
		out.At = append(out.At, of(k/cols, k%cols))
	}
	return out
}

// over is an answer, or ErrOver if a number in it isn't finite.
func over(a answer) answer {
	for _, l := range [][]float64{a.m.At, a.list, a.x[:]} {
		if wrongNumbers(l...) != api.OK {
			return fault(api.ErrOver)
		}
	}
	return a
}

// ifOK answers only if nothing is wrong.
func ifOK(e api.Errno, then func() answer) answer {
	if e != api.OK {
		return fault(e)
	}
	return over(then())
}

func tableIfOK(e api.Errno, rows, cols int, of func(i, j int) float64) answer {
	return ifOK(e, func() answer { return answer{m: table(rows, cols, of)} })
}

// belowDiagonal asks for the place from the diagonal down.
func belowDiagonal(of func(i, j int) float64) func(i, j int) float64 {
	return func(i, j int) float64 { return of(max(i, j), min(i, j)) }
}

func square(m api.Mat) api.Errno { return first(wrongMat(m), when(m.Rows != m.Cols, api.ErrShape)) }

// outside tells whether count places from i on are not all below n; in 64 bits or more no int's sum is beyond.
func outside(i, count, n int) bool {
	sum := new(big.Int).Add(big.NewInt(int64(i)), big.NewInt(int64(count)))
	return i < 0 || count < 0 || sum.Cmp(big.NewInt(int64(n))) > 0
}

func wantOf(q question) answer {
	if len(q.grid) == 0 {
		return answer{}
	}
	n := len(q.grid[0])
	e := when(len(q.grid) > 12 || n > 12, api.ErrRange)
	for _, r := range q.grid {
		e = first(e, when(len(r) != n, api.ErrShape))
	}
	for _, r := range q.grid {
		e = first(e, wrongNumbers(r...))
	}
	return tableIfOK(e, len(q.grid), n, func(i, j int) float64 { return q.grid[i][j] })
}

func wantOrder(q question) answer {
	e := first(square(q.a), when(len(q.p) != q.a.Rows, api.ErrShape))
	if e != api.OK {
		return fault(e)
	}
	for k := range q.p {
		times := 0
		for _, v := range q.p {
			if v == k {
				times++
			}
		}
		e = first(e, when(times != 1, api.ErrRange))
	}
	return tableIfOK(e, q.a.Rows, q.a.Cols, func(i, j int) float64 { return number(q.a, q.p[i], q.p[j]) })
}

func wantBeside(q question) answer {
	e := first(wrongMat(q.a), wrongMat(q.b), when(q.a.Rows != q.b.Rows, api.ErrShape), when(q.a.Cols+q.b.Cols > 12, api.ErrRange))
	return tableIfOK(e, q.a.Rows, q.a.Cols+q.b.Cols, func(i, j int) float64 { return append(rowOf(q.a, i), rowOf(q.b, i)...)[j] })
}

func wantStack(q question) answer {
	e := first(wrongMat(q.a), wrongMat(q.b), when(q.a.Cols != q.b.Cols, api.ErrShape), when(q.a.Rows+q.b.Rows > 12, api.ErrRange))
	return tableIfOK(e, q.a.Rows+q.b.Rows, q.a.Cols, func(i, j int) float64 { return append(colOf(q.a, j), colOf(q.b, j)...)[i] })
}

// wantSandwich looks at the inner product too: a step that isn't finite is one, whatever becomes of it.
func wantSandwich(q question) answer {
	f, p := q.a, q.b
	e := first(wrongMat(f), square(p), when(f.Cols != p.Rows, api.ErrShape))
	return ifOK(e, func() answer {
		m := table(f.Rows, p.Cols, func(i, j int) float64 { return dotInOrder(rowOf(f, i), colOf(p, j)) })
		if wrongNumbers(m.At...) != api.OK {
			return fault(api.ErrOver)
		}
		return answer{m: table(f.Rows, f.Rows, belowDiagonal(func(i, j int) float64 { return dotInOrder(rowOf(m, i), rowOf(f, j)) }))}
	})
}

func wantMean(q question) answer {
	return tableIfOK(square(q.a), q.a.Rows, q.a.Rows, belowDiagonal(func(i, j int) float64 {
		if i == j {
			return number(q.a, i, i)
		}
		return times(plus(number(q.a, i, j), number(q.a, j, i)), 0.5)
	}))
}

func wantTrace(q question) answer {
	return ifOK(square(q.a), func() answer {
		var l []float64
		for i := 0; i < q.a.Rows; i++ {
			l = append(l, number(q.a, i, i))
		}
		return answer{x: [3]float64{sumInOrder(l)}}
	})
}

func wantNorms(q question) answer {
	return ifOK(wrongMat(q.a), func() answer {
		var out answer
		amounts := table(q.a.Rows, q.a.Cols, func(i, j int) float64 { return math.Abs(number(q.a, i, j)) })
		for j := 0; j < q.a.Cols; j++ {
			out.x[0] = math.Max(out.x[0], sumInOrder(colOf(amounts, j)))
		}
		for i := 0; i < q.a.Rows; i++ {
			out.x[1] = math.Max(out.x[1], sumInOrder(rowOf(amounts, i)))
		}
		for _, x := range amounts.At {
			out.x[2] = math.Max(out.x[2], x)
		}
		return out
	})
}

func wantSymmetric(q question) answer {
	yes := square(q.a) == api.OK
	for i := 0; yes && i < q.a.Rows; i++ {
		yes = sameList(rowOf(q.a, i), colOf(q.a, i))
	}
	return truth(yes)
}

func wantLower(q question) answer {
	yes := square(q.a) == api.OK
	for i := 0; yes && i < q.a.Rows; i++ {
		for _, x := range rowOf(q.a, i)[i+1:] {
			yes = yes && math.Float64bits(x) == 0
		}
	}
	return truth(yes)
}

// wantEqual: all NaNs are taken for one.
func wantEqual(q question) answer {
	yes := q.a.Rows == q.b.Rows && q.a.Cols == q.b.Cols && len(q.a.At) == len(q.b.At)
	for k := 0; yes && k < len(q.a.At); k++ {
		x, y := q.a.At[k], q.b.At[k]
		yes = sameNumber(x, y) || x != x && y != y
	}
	return truth(yes)
}

func wantAlike(q question, of func(x, y float64) float64) answer {
	e := first(wrongMat(q.a), wrongMat(q.b), when(q.a.Rows != q.b.Rows || q.a.Cols != q.b.Cols, api.ErrShape))
	return tableIfOK(e, q.a.Rows, q.a.Cols, func(i, j int) float64 { return of(number(q.a, i, j), number(q.b, i, j)) })
}
