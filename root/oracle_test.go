package root_test

import (
	"math"
	"math/big"
	"slices"

	"binnacle/api"
	"binnacle/kalman"
	"binnacle/model"
	"binnacle/qr"
)

func isFinite(x float64) bool { return !math.IsNaN(x) && !math.IsInf(x, 0) }

func isFiniteList(l []float64) bool {
	return !slices.ContainsFunc(l, func(x float64) bool { return !isFinite(x) })
}

// refusal is how a reckoning by the words ends early, and at which step of a formula.
type refusal struct {
	err  api.Errno
	step string
}

// refuse ends the reckoning, if something is so.
func refuse(so bool, err api.Errno) {
	if so {
		panic(refusal{err: err})
	}
}

// allow ends the reckoning where a call that it leans on is refused, at a step.
func allow(step string, err api.Errno) {
	if err != api.OK {
		panic(refusal{err, step})
	}
}

// reckoned is what a reckoning comes to: its answer or its refusal.
func reckoned(of func() answer) (out answer) {
	defer func() {
		switch x := recover().(type) {
		case nil:
		case refusal:
			out = fault(x.err)
			out.step = x.step
		default:
			panic(x)
		}
	}()
	return of()
}

// finite is a step that must be.
func finite(step string, x float64) float64 {
	if !isFinite(x) {
		panic(refusal{api.ErrOver, step})
	}
	return x
}

func plus(step string, a, b float64) float64 { return finite(step, a+b) }

func less(step string, a, b float64) float64 { return finite(step, a-b) }

// times turns the product into a float64, so that no machine fuses it with a sum.
func times(step string, a, b float64) float64 { return finite(step, float64(a*b)) }

func over(step string, a, b float64) float64 { return finite(step, a/b) }

// inOrder is a dot product in order.
func inOrder(step string, a, b []float64) float64 {
	s := 0.0
	for i := range a {
		s = plus(step, s, times(step, a[i], b[i]))
	}
	return s
}

func rowOf(m api.Mat, i int) []float64 { return m.At[i*m.Cols : (i+1)*m.Cols] }

func colOf(m api.Mat, j int) []float64 {
	var out []float64
	for i := range m.Rows {
		out = append(out, m.At[i*m.Cols+j])
	}
	return out
}

// productOf is a matrix of dot products of a's rows and b's columns.
func productOf(step string, a, b api.Mat) api.Mat {
	m := mat(a.Rows, b.Cols)
	for i := range a.Rows {
		for j := range b.Cols {
			m.At = append(m.At, inOrder(step, rowOf(a, i), colOf(b, j)))
		}
	}
	return m
}

// mirroredOf asks for each number from the diagonal down.
func mirroredOf(n int, number func(i, j int) float64) api.Mat {
	m := noughts(n)
	for i := range n {
		for j := 0; j <= i; j++ {
			m.At[i*n+j] = number(i, j)
			m.At[j*n+i] = m.At[i*n+j]
		}
	}
	return m
}

// wholes are finite numbers times one power of 2, whole.
func wholes(l []float64) []*big.Int {
	out := make([]*big.Int, len(l))
	low := 1024
	for _, x := range l {
		if _, e := math.Frexp(x); x != 0 {
			low = min(low, e-53)
		}
	}
	for i, x := range l {
		part, e := math.Frexp(x)
		out[i] = big.NewInt(int64(math.Ldexp(part, 53)))
		if x != 0 {
			out[i].Lsh(out[i], uint(e-53-low))
		}
	}
	return out
}

// isPositive asks of a symmetric matrix of whole numbers, by Sylvester, whether the determinants of all leading squares are above 0; Bareiss reckons them. It takes the lower triangle for all, and writes over it.
func isPositive(n int, a []*big.Int) bool {
	last := big.NewInt(1)
	for k := range n {
		pivot := a[k*n+k]
		if pivot.Sign() <= 0 {
			return false
		}
		for i := k + 1; i < n; i++ {
			for j := k + 1; j <= i; j++ {
				x := new(big.Int).Mul(a[i*n+j], pivot)
				x.Sub(x, new(big.Int).Mul(a[i*n+k], a[j*n+k]))
				a[i*n+j] = x.Quo(x, last)
			}
		}
		last = pivot
	}
	return true
}

func isPositiveMat(m api.Mat) bool { return isPositive(m.Rows, wholes(m.At)) }

// isGood is P8.
func isGood(m api.Mat) {
	refuse(m.Rows < 0 || m.Rows > 12 || m.Cols < 0 || m.Cols > 12, api.ErrRange)
	refuse(len(m.At) != m.Rows*m.Cols, api.ErrShape)
	refuse(!isFiniteList(m.At), api.ErrNumber)
}

// wordsOfCheck: P16.1.
func wordsOfCheck(s api.Root) {
	isGood(s.L)
	refuse(s.L.Rows != s.L.Cols || len(s.X) != s.L.Rows, api.ErrShape)
	refuse(!isFiniteList(s.X), api.ErrNumber)
	for i := range s.X {
		for j, x := range rowOf(s.L, i) {
			refuse(j > i && !sameNumber(x, 0) || j == i && !(x > 0), api.ErrTriangle)
		}
	}
}

// wordsOfOf: P16.1, with Cholesky by P9.1.
func wordsOfOf(s api.State) api.Root {
	allow("", kalman.Check(s))
	n := len(s.X)
	l := noughts(n)
	at := func(i, j int) float64 { return l.At[i*n+j] }
	for j := range n {
		d := s.P.At[j*n+j]
		for k := range j {
			d = less("d - L L", d, times("L L", at(j, k), at(j, k)))
		}
		refuse(!(d > 0), api.ErrPositive)
		l.At[j*n+j] = math.Sqrt(d)
		for i := j + 1; i < n; i++ {
			t := s.P.At[i*n+j]
			for k := range j {
				t = less("t - L L", t, times("L L", at(i, k), at(j, k)))
			}
			l.At[i*n+j] = over("t / L", t, at(j, j))
		}
	}
	return api.Root{X: s.X, L: l}
}

// wordsOfState: P16.1, with the square by P8.4.
func wordsOfState(s api.Root) api.State {
	wordsOfCheck(s)
	n := len(s.X)
	m := productOf("M", s.L, unit(n))
	p := mirroredOf(n, func(i, j int) float64 { return inOrder("L L", rowOf(m, i), rowOf(s.L, j)) })
	refuse(!isPositiveMat(p), api.ErrCovPos)
	return api.State{X: s.X, P: p}
}

// wordsOfPredict: P16.2.
func wordsOfPredict(s api.Root, f, g api.Mat) api.Root {
	wordsOfCheck(s)
	isGood(f)
	refuse(f.Rows != f.Cols || f.Rows != len(s.X), api.ErrShape)
	isGood(g)
	refuse(g.Rows != len(s.X), api.ErrShape)
	var out api.Root
	for i := range s.X {
		out.X = append(out.X, inOrder("X'", rowOf(f, i), s.X))
	}
	l, err := qr.Triangle([]api.Mat{productOf("f L", f, s.L), g})
	allow("triangle", err)
	for i := range s.X {
		refuse(l.At[i*l.Cols+i] == 0, api.ErrTriangle)
	}
	out.L = l
	return out
}

// wordsOfMove: P16.2.
func wordsOfMove(s api.Root, m api.Motion, ticks int64) api.Root {
	wordsOfCheck(s)
	f, err := model.F(m, ticks)
	allow("", err)
	refuse(f.Rows != len(s.X), api.ErrShape)
	g, err := model.G(m, ticks)
	allow("", err)
	return wordsOfPredict(s, f, g)
}

// isRow: what a row and its variance may be.
func isRow(s api.Root, h []float64, r float64) {
	refuse(len(h) != len(s.X), api.ErrShape)
	refuse(!isFiniteList(h), api.ErrNumber)
	refuse(!isFinite(r), api.ErrNumber)
	refuse(!(r > 0), api.ErrVariance)
}

// forecast: P16.3's formulas.
func forecast(s api.Root, h []float64, r float64) (m float64, v, a []float64) {
	n := len(s.X)
	for j := range n {
		v = append(v, inOrder("v", colOf(s.L, j), h))
	}
	m = inOrder("m", h, s.X)
	a = append(make([]float64, n), r)
	for j := n - 1; j >= 0; j-- {
		a[j] = plus("a", a[j+1], times("v v", v[j], v[j]))
	}
	return m, v, a
}

// wordsOfForesee: P16.3.
func wordsOfForesee(s api.Root, h []float64, r float64) (m, variance float64) {
	wordsOfCheck(s)
	isRow(s, h, r)
	m, _, a := forecast(s, h, r)
	return m, a[0]
}

// carlson: P16.4's formula of L', with w.
func carlson(l api.Mat, v, a []float64) (out api.Mat, w []float64) {
	n := len(v)
	out, w = noughts(n), make([]float64, n)
	for j := n - 1; j >= 0; j-- {
		p, q := math.Sqrt(a[j]), math.Sqrt(a[j+1])
		c := over("c", q, p)
		t := over("t", v[j], times("p q", p, q))
		for i := j; i < n; i++ {
			was := l.At[i*n+j]
			out.At[i*n+j] = less("c L - t w", times("c L", c, was), times("t w", t, w[i]))
			w[i] = plus("w + v L", w[i], times("v L", v[j], was))
		}
	}
	return out, w
}

// wordsOfUpdate: P16.4.
func wordsOfUpdate(s api.Root, h []float64, r, z float64) (api.Root, api.Step) {
	wordsOfCheck(s)
	isRow(s, h, r)
	refuse(!isFinite(z), api.ErrNumber)
	m, v, a := forecast(s, h, r)
	y := less("y", z, m)
	var out api.Root
	l, w := carlson(s.L, v, a)
	out.L = l
	var k []float64
	for i := range v {
		k = append(k, over("k", w[i], a[0]))
		out.X = append(out.X, plus("X + k y", s.X[i], times("k y", k[i], y)))
	}
	score := over("score", times("y y", y, y), a[0])
	for i := range v {
		refuse(!(l.At[i*l.Cols+i] > 0), api.ErrTriangle)
	}
	return out, api.Step{Innov: y, Var: a[0], Score: score, Gain: k}
}

// wordsOfRows: P16.5.
func wordsOfRows(s api.Root, h api.Mat, r, z []float64) (out answer) {
	wordsOfCheck(s)
	isGood(h)
	refuse(h.Cols != len(s.X) || len(r) != h.Rows || len(z) != h.Rows, api.ErrShape)
	out.s = s
	for i := range h.Rows {
		one := reckoned(func() answer {
			s, step := wordsOfUpdate(out.s, rowOf(h, i), r[i], z[i])
			return answer{s: s, steps: []api.Step{step}}
		})
		if one.err != api.OK {
			return answer{err: one.err, place: i, step: one.step}
		}
		out.s, out.steps = one.s, append(out.steps, one.steps...)
	}
	return out
}

// wordsOfDistance: P16.6, with solving by P9.3.
func wordsOfDistance(s api.Root, x []float64) float64 {
	wordsOfCheck(s)
	refuse(len(x) != len(s.X), api.ErrShape)
	refuse(!isFiniteList(x), api.ErrNumber)
	n := len(x)
	var d, b []float64
	for i := range n {
		d = append(d, less("d", x[i], s.X[i]))
	}
	for i := range n {
		t := d[i]
		for k := range i {
			t = less("t - L b", t, times("L b", s.L.At[i*n+k], b[k]))
		}
		b = append(b, over("b", t, s.L.At[i*n+i]))
	}
	return inOrder("b b", b, b)
}

// wordsOfTrace: P16.6.
func wordsOfTrace(s api.Root) float64 {
	wordsOfCheck(s)
	var all []float64
	for i := range s.X {
		all = append(all, rowOf(s.L, i)[:i+1]...)
	}
	return inOrder("trace", all, all)
}
