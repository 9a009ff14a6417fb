package kalman_test

import (
	"math"
	"math/big"
	"slices"

	"binnacle/api"
	"binnacle/model"
)

func isFinite(x float64) bool { return !math.IsNaN(x) && !math.IsInf(x, 0) }

func isFiniteList(l []float64) bool {
	return !slices.ContainsFunc(l, func(x float64) bool { return !isFinite(x) })
}

func fraction(x float64) *big.Rat { return new(big.Rat).SetFloat64(x) }

// refusal is how a reckoning by the words ends early, and at which step of a formula.
type refusal struct {
	err  api.Errno
	step string
}

// refuse ends the reckoning, if something is so.
func refuse(so bool, err api.Errno) {
	if so {
		panic(refusal{err: err})
	}
}

// reckoned is what a reckoning comes to: its answer or its refusal.
func reckoned(of func() answer) (out answer) {
	defer func() {
		switch x := recover().(type) {
		case nil:
		case refusal:
			out = fault(x.err)
			out.step = x.step
		default:
			panic(x)
		}
	}()
	return of()
}

// finite is a step that must be.
func finite(step string, x float64) float64 {
	if !isFinite(x) {
		panic(refusal{api.ErrOver, step})
	}
	return x
}

func plus(step string, a, b float64) float64 { return finite(step, a+b) }

func less(step string, a, b float64) float64 { return finite(step, a-b) }

// times turns the product into a float64, so that no machine fuses it with a sum.
func times(step string, a, b float64) float64 { return finite(step, float64(a*b)) }

func over(step string, a, b float64) float64 { return finite(step, a/b) }

// inOrder is a dot product in order.
func inOrder(step string, a, b []float64) float64 {
	s := 0.0
	for i := range a {
		s = plus(step, s, times(step, a[i], b[i]))
	}
	return s
}

func rowOf(m api.Mat, i int) []float64 { return m.At[i*m.Cols : (i+1)*m.Cols] }

func colOf(m api.Mat, j int) []float64 {
	var out []float64
	for i := range m.Rows {
		out = append(out, m.At[i*m.Cols+j])
	}
	return out
}

// productOf is a matrix of dot products of a's rows and b's columns.
func productOf(step string, a, b api.Mat) api.Mat {
	m := mat(a.Rows, b.Cols)
	for i := range a.Rows {
		for j := range b.Cols {
			m.At = append(m.At, inOrder(step, rowOf(a, i), colOf(b, j)))
		}
	}
	return m
}

// mirroredOf asks for each number from the diagonal down.
func mirroredOf(n int, number func(i, j int) float64) api.Mat {
	m := noughts(n)
	for i := range n {
		for j := 0; j <= i; j++ {
			m.At[i*n+j] = number(i, j)
			m.At[j*n+i] = m.At[i*n+j]
		}
	}
	return m
}

func isMirrored(m api.Mat) bool {
	for i := range m.Rows {
		if !sameList(rowOf(m, i), colOf(m, i)) {
			return false
		}
	}
	return true
}

// wholes are finite numbers times one power of 2, whole.
func wholes(l []float64) []*big.Int {
	out := make([]*big.Int, len(l))
	low := 1024
	for _, x := range l {
		if _, e := math.Frexp(x); x != 0 {
			low = min(low, e-53)
		}
	}
	for i, x := range l {
		part, e := math.Frexp(x)
		out[i] = big.NewInt(int64(math.Ldexp(part, 53)))
		if x != 0 {
			out[i].Lsh(out[i], uint(e-53-low))
		}
	}
	return out
}

// isPositive asks, by Sylvester, whether the determinants of all leading squares are above 0; Bareiss reckons them in whole numbers. It takes the lower triangle for all.
func isPositive(m api.Mat) bool {
	n, a := m.Rows, wholes(m.At)
	last := big.NewInt(1)
	for k := range n {
		pivot := a[k*n+k]
		if pivot.Sign() <= 0 {
			return false
		}
		for i := k + 1; i < n; i++ {
			for j := k + 1; j <= i; j++ {
				x := new(big.Int).Mul(a[i*n+j], pivot)
				x.Sub(x, new(big.Int).Mul(a[i*n+k], a[j*n+k]))
				a[i*n+j] = x.Quo(x, last)
			}
		}
		last = pivot
	}
	return true
}

// isGood is P8.
func isGood(m api.Mat) {
	refuse(m.Rows < 0 || m.Rows > 12 || m.Cols < 0 || m.Cols > 12, api.ErrRange)
	refuse(len(m.At) != m.Rows*m.Cols, api.ErrShape)
	refuse(!isFiniteList(m.At), api.ErrNumber)
}

// wordsOfCheck: P15.1.
func wordsOfCheck(s api.State) {
	isGood(s.P)
	refuse(s.P.Rows != s.P.Cols || len(s.X) != s.P.Rows, api.ErrShape)
	refuse(!isFiniteList(s.X), api.ErrNumber)
	refuse(!isMirrored(s.P), api.ErrCovSym)
	refuse(!isPositive(s.P), api.ErrCovPos)
}

// looked is a state behind the exact look.
func looked(s api.State) api.State {
	refuse(!isPositive(s.P), api.ErrCovPos)
	return s
}

// wordsOfPredict: P15.2.
func wordsOfPredict(s api.State, f, q api.Mat) api.State {
	wordsOfCheck(s)
	for _, m := range []api.Mat{f, q} {
		isGood(m)
		refuse(m.Rows != m.Cols || m.Rows != len(s.X), api.ErrShape)
	}
	refuse(!isMirrored(q), api.ErrCovSym)
	var out api.State
	for i := range s.X {
		out.X = append(out.X, inOrder("X'", rowOf(f, i), s.X))
	}
	m := productOf("M", f, s.P)
	out.P = mirroredOf(len(s.X), func(i, j int) float64 {
		return plus("P' + q", inOrder("M f", rowOf(m, i), rowOf(f, j)), q.At[i*q.Cols+j])
	})
	return looked(out)
}

// wordsOfMove: P15.3.
func wordsOfMove(s api.State, m api.Motion, ticks int64) api.State {
	wordsOfCheck(s)
	f, err := model.F(m, ticks)
	refuse(err != api.OK, err)
	refuse(f.Rows != len(s.X), api.ErrShape)
	q, err := model.Q(m, ticks)
	refuse(err != api.OK, err)
	return wordsOfPredict(s, f, q)
}

// isRow: what a row and its variance may be.
func isRow(s api.State, h []float64, r float64) {
	refuse(len(h) != len(s.X), api.ErrShape)
	refuse(!isFiniteList(h), api.ErrNumber)
	refuse(!isFinite(r), api.ErrNumber)
	refuse(!(r > 0), api.ErrVariance)
}

// forecast: P15.4's formulas.
func forecast(s api.State, h []float64, r float64) (m, variance float64, v []float64) {
	for i := range s.X {
		v = append(v, inOrder("v", rowOf(s.P, i), h))
	}
	m = inOrder("m", h, s.X)
	variance = plus("S", inOrder("h v", h, v), r)
	refuse(!(variance > 0), api.ErrInnovation)
	return m, variance, v
}

// wordsOfForesee: P15.4.
func wordsOfForesee(s api.State, h []float64, r float64) (m, variance float64) {
	wordsOfCheck(s)
	isRow(s, h, r)
	m, variance, _ = forecast(s, h, r)
	return m, variance
}

// wordsOfUpdate: P15.5 and P15.6.
func wordsOfUpdate(s api.State, h []float64, r, z float64, short bool) (api.State, api.Step) {
	wordsOfCheck(s)
	isRow(s, h, r)
	refuse(!isFinite(z), api.ErrNumber)
	m, variance, v := forecast(s, h, r)
	y := less("y", z, m)
	var k []float64
	for i := range v {
		k = append(k, over("k", v[i], variance))
	}
	var out api.State
	for i := range v {
		out.X = append(out.X, plus("X + k y", s.X[i], times("k y", k[i], y)))
	}
	score := over("score", times("y y", y, y), variance)
	n := len(v)
	if short {
		out.P = mirroredOf(n, func(i, j int) float64 { return less("P - k v", s.P.At[i*n+j], times("k v", k[i], v[j])) })
	} else {
		out.P = joseph(s.P, k, h, r)
	}
	return looked(out), api.Step{Innov: y, Var: variance, Score: score, Gain: k}
}

// joseph: the long form's covariance.
func joseph(p api.Mat, k, h []float64, r float64) api.Mat {
	n := len(k)
	a := noughts(n)
	for i := range n {
		for j := range n {
			one := 0.0
			if i == j {
				one = 1
			}
			a.At[i*n+j] = less("A", one, times("k h", k[i], h[j]))
		}
	}
	b := productOf("B", a, p)
	return mirroredOf(n, func(i, j int) float64 {
		return plus("B A + k r k", inOrder("B A", rowOf(b, i), rowOf(a, j)), times("k r k", times("k r", k[i], r), k[j]))
	})
}

// wordsOfRows: P15.7.
func wordsOfRows(s api.State, h api.Mat, r, z []float64) (out answer) {
	wordsOfCheck(s)
	isGood(h)
	refuse(h.Cols != len(s.X) || len(r) != h.Rows || len(z) != h.Rows, api.ErrShape)
	out.s = s
	for i := range h.Rows {
		one := reckoned(func() answer {
			s, step := wordsOfUpdate(out.s, rowOf(h, i), r[i], z[i], false)
			return answer{s: s, steps: []api.Step{step}}
		})
		if one.err != api.OK {
			return answer{err: one.err, place: i}
		}
		out.s, out.steps = one.s, append(out.steps, one.steps...)
	}
	return out
}

// wordsOfTrace: P15.8.
func wordsOfTrace(s api.State) float64 {
	wordsOfCheck(s)
	x := 0.0
	for i := range s.X {
		x = plus("trace", x, s.P.At[i*len(s.X)+i])
	}
	return x
}
