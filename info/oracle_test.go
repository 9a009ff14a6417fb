package info_test

import (
	"math"
	"math/big"
	"slices"

	"binnacle/api"
	"binnacle/chol"
	"binnacle/kalman"
)

func isFinite(x float64) bool { return !math.IsNaN(x) && !math.IsInf(x, 0) }

func isFiniteList(l []float64) bool {
	return !slices.ContainsFunc(l, func(x float64) bool { return !isFinite(x) })
}

// refusal is how a reckoning by the words ends early, and at which step of a formula.
type refusal struct {
	err  api.Errno
	step string
}

// refuse ends the reckoning, if something is so.
func refuse(so bool, err api.Errno) {
	if so {
		panic(refusal{err: err})
	}
}

// allow ends the reckoning where a call that it leans on is refused, at a step.
func allow(step string, err api.Errno) {
	if err != api.OK {
		panic(refusal{err, step})
	}
}

// reckoned is what a reckoning comes to: its answer or its refusal.
func reckoned(of func() answer) (out answer) {
	defer func() {
		switch x := recover().(type) {
		case nil:
		case refusal:
			out = fault(x.err)
			out.step = x.step
		default:
			panic(x)
		}
	}()
	return of()
}

// finite is a step that must be.
func finite(step string, x float64) float64 {
	if !isFinite(x) {
		panic(refusal{api.ErrOver, step})
	}
	return x
}

func plus(step string, a, b float64) float64 { return finite(step, a+b) }

func less(step string, a, b float64) float64 { return finite(step, a-b) }

// times turns the product into a float64, so that no machine fuses it with a sum.
func times(step string, a, b float64) float64 { return finite(step, float64(a*b)) }

func over(step string, a, b float64) float64 { return finite(step, a/b) }

// inOrder is a dot product in order.
func inOrder(product, sum string, a, b []float64) float64 {
	s := 0.0
	for i := range a {
		s = plus(sum, s, times(product, a[i], b[i]))
	}
	return s
}

func rowOf(m api.Mat, i int) []float64 { return m.At[i*m.Cols : (i+1)*m.Cols] }

// mirroredOf asks for each number from the diagonal down.
func mirroredOf(n int, number func(i, j int) float64) api.Mat {
	m := noughts(n)
	for i := range n {
		for j := 0; j <= i; j++ {
			m.At[i*n+j] = number(i, j)
			m.At[j*n+i] = m.At[i*n+j]
		}
	}
	return m
}

// turned is a square matrix with rows and columns exchanged.
func turned(m api.Mat) api.Mat {
	n := m.Rows
	out := noughts(n)
	for i := range n {
		for j := range n {
			out.At[j*n+i] = m.At[i*n+j]
		}
	}
	return out
}

// wholes are finite numbers times one power of 2, whole.
func wholes(l []float64) []*big.Int {
	out := make([]*big.Int, len(l))
	low := 1024
	for _, x := range l {
		if _, e := math.Frexp(x); x != 0 {
			low = min(low, e-53)
		}
	}
	for i, x := range l {
		part, e := math.Frexp(x)
		out[i] = big.NewInt(int64(math.Ldexp(part, 53)))
		if x != 0 {
			out[i].Lsh(out[i], uint(e-53-low))
		}
	}
	return out
}

// isPositiveMat asks of a symmetric matrix, by Sylvester, whether the determinants of all leading squares are above 0; Bareiss reckons them in whole numbers. It takes the lower triangle for all.
func isPositiveMat(m api.Mat) bool {
	n, a, last := m.Rows, wholes(m.At), big.NewInt(1)
	for k := range n {
		pivot := a[k*n+k]
		if pivot.Sign() <= 0 {
			return false
		}
		for i := k + 1; i < n; i++ {
			for j := k + 1; j <= i; j++ {
				x := new(big.Int).Mul(a[i*n+j], pivot)
				x.Sub(x, new(big.Int).Mul(a[i*n+k], a[j*n+k]))
				a[i*n+j] = x.Quo(x, last)
			}
		}
		last = pivot
	}
	return true
}

// isGood is P8.
func isGood(m api.Mat) {
	refuse(m.Rows < 0 || m.Rows > 12 || m.Cols < 0 || m.Cols > 12, api.ErrRange)
	refuse(len(m.At) != m.Rows*m.Cols, api.ErrShape)
	refuse(!isFiniteList(m.At), api.ErrNumber)
}

// isSquareWith: what informations and roots have in common.
func isSquareWith(m api.Mat, l []float64) {
	isGood(m)
	refuse(m.Rows != m.Cols || len(l) != m.Rows, api.ErrShape)
	refuse(!isFiniteList(l), api.ErrNumber)
}

// wordsOfCheck: P17.1.
func wordsOfCheck(a api.Info) {
	isSquareWith(a.Y, a.V)
	for i := range a.V {
		for j, x := range rowOf(a.Y, i) {
			refuse(!sameNumber(x, rowOf(a.Y, j)[i]), api.ErrCovSym)
		}
	}
	exactLook(a)
}

func exactLook(a api.Info) { refuse(!isPositiveMat(a.Y), api.ErrInfo) }

// wordsOfCheckRoot: P17.1.
func wordsOfCheckRoot(a api.RootInfo) {
	isSquareWith(a.R, a.Z)
	for i := range a.Z {
		for j, x := range rowOf(a.R, i) {
			refuse(j < i && !sameNumber(x, 0) || j == i && !(x > 0), api.ErrUpperTri)
		}
	}
}

// wordsOfOf: P17.2.
func wordsOfOf(s api.State) (out api.Info) {
	allow("", kalman.Check(s))
	y, _, err := chol.Inverse(s.P)
	allow("inverse", err)
	refuse(!isPositiveMat(y), api.ErrInfo)
	out.Y = y
	for i := range s.X {
		out.V = append(out.V, inOrder("Y X", "sum of Y X", rowOf(y, i), s.X))
	}
	return out
}

// wordsOfState: P17.2.
func wordsOfState(a api.Info) api.State {
	wordsOfCheck(a)
	p, _, err := chol.Inverse(a.Y)
	allow("inverse", err)
	refuse(!isPositiveMat(p), api.ErrCovPos)
	x, _, err := chol.Solve(a.Y, a.V)
	allow("solve", err)
	return api.State{X: x, P: p}
}

// isRow: what a row, its variance and its value may be.
func isRow(n int, h []float64, r, z float64) {
	refuse(len(h) != n, api.ErrShape)
	refuse(!isFiniteList(h), api.ErrNumber)
	refuse(!isFinite(r), api.ErrNumber)
	refuse(!(r > 0), api.ErrVariance)
	refuse(!isFinite(z), api.ErrNumber)
}

// wordsOfUpdate: P17.3.
func wordsOfUpdate(a api.Info, h []float64, r, z float64) (out api.Info) {
	wordsOfCheck(a)
	n := len(a.V)
	isRow(n, h, r, z)
	out.Y = mirroredOf(n, func(i, j int) float64 {
		return plus("Y + h h / r", a.Y.At[i*n+j], over("h h / r", times("h h", h[i], h[j]), r))
	})
	for i := range n {
		out.V = append(out.V, plus("V + h z / r", a.V[i], over("h z / r", times("h z", h[i], z), r)))
	}
	exactLook(out)
	return out
}

// wordsOfRows: P17.3.
func wordsOfRows(a api.Info, h api.Mat, r, z []float64) answer {
	wordsOfCheck(a)
	isGood(h)
	refuse(h.Cols != len(a.V) || len(r) != h.Rows || len(z) != h.Rows, api.ErrShape)
	out := answer{a: a}
	for i := range h.Rows {
		next := reckoned(func() answer { return answer{a: wordsOfUpdate(out.a, rowOf(h, i), r[i], z[i])} })
		if next.err != api.OK {
			return answer{err: next.err, place: i, step: next.step}
		}
		out = next
	}
	return out
}

// wordsOfJoin: P17.4.
func wordsOfJoin(a, b api.Info) (out api.Info) {
	wordsOfCheck(a)
	wordsOfCheck(b)
	n := len(a.V)
	refuse(len(b.V) != n, api.ErrShape)
	out.Y = noughts(n)
	for k := range out.Y.At {
		out.Y.At[k] = plus("Y + Y", a.Y.At[k], b.Y.At[k])
	}
	for i := range n {
		out.V = append(out.V, plus("V + V", a.V[i], b.V[i]))
	}
	exactLook(out)
	return out
}

// wordsOfPredict: P17.5.
func wordsOfPredict(a api.Info, f, q api.Mat) api.Info {
	s, err := kalman.Predict(wordsOfState(a), f, q)
	allow("predict", err)
	return wordsOfOf(s)
}

// wordsOfRootOf: P17.6.
func wordsOfRootOf(a api.Info) api.RootInfo {
	wordsOfCheck(a)
	l, _, err := chol.Chol(a.Y)
	allow("triangle", err)
	z, err := chol.Lower(l, a.V)
	allow("lower", err)
	return api.RootInfo{R: turned(l), Z: z}
}

// wordsOfUnroot: P17.6.
func wordsOfUnroot(a api.RootInfo) (out api.Info) {
	wordsOfCheckRoot(a)
	l := turned(a.R)
	y, err := chol.Square(l)
	allow("square", err)
	out.Y = y
	for i := range a.Z {
		out.V = append(out.V, inOrder("L Z", "sum of L Z", rowOf(l, i)[:i+1], a.Z[:i+1]))
	}
	exactLook(out)
	return out
}

// wordsOfMeans: P17.6.
func wordsOfMeans(a api.RootInfo) []float64 {
	wordsOfCheckRoot(a)
	x, err := chol.Upper(turned(a.R), a.Z)
	allow("upper", err)
	return x
}

// wordsOfUpdateRoot: P17.7.
func wordsOfUpdateRoot(a api.RootInfo, h []float64, r, z float64) (api.RootInfo, float64) {
	wordsOfCheckRoot(a)
	n := len(a.Z)
	isRow(n, h, r, z)
	out := api.RootInfo{R: mat(n, n, slices.Clone(a.R.At)...), Z: slices.Clone(a.Z)}
	d := math.Sqrt(r)
	var w []float64
	for j := range n {
		w = append(w, over("w", h[j], d))
	}
	e := over("e", z, d)
	for i := range n {
		if w[i] == 0 {
			continue
		}
		p := out.R.At[i*n+i]
		g := math.Sqrt(plus("p p + w w", times("p p", p, p), times("w w", w[i], w[i])))
		refuse(!(g > 0), api.ErrUpperTri)
		c, s := over("c", p, g), over("s", w[i], g)
		out.R.At[i*n+i] = g
		for j := i + 1; j < n; j++ {
			x := out.R.At[i*n+j]
			t := plus("c R + s w", times("c R", c, x), times("s w", s, w[j]))
			w[j] = less("c w - s R", times("c w", c, w[j]), times("s R", s, x))
			out.R.At[i*n+j] = t
		}
		t := plus("c Z + s e", times("c Z", c, out.Z[i]), times("s e", s, e))
		e = less("c e - s Z", times("c e", c, e), times("s Z", s, out.Z[i]))
		out.Z[i] = t
	}
	return out, e
}
