package info_test

import (
	"math"
	"math/rand"
	"slices"
	"testing"

	"binnacle/api"
)

var (
	inf   = math.Inf(1)
	minus = math.Copysign(0, -1)
	nan   = math.NaN()
)

const (
	most  = math.MaxFloat64
	least = 0x1p-1074
)

func mat(rows, cols int, at ...float64) api.Mat { return api.Mat{Rows: rows, Cols: cols, At: at} }

// square is a matrix of as many rows as its numbers allow.
func square(at ...float64) api.Mat {
	n := 0
	for n*n < len(at) {
		n++
	}
	return mat(n, n, at...)
}

func list(x ...float64) []float64 { return x }

// filled is a list of n times x.
func filled(n int, x float64) []float64 { return slices.Repeat(list(x), n) }

func information(v []float64, y ...float64) api.Info { return api.Info{Y: square(y...), V: v} }

func state(x []float64, p ...float64) api.State { return api.State{X: x, P: square(p...)} }

func rootOf(z []float64, r ...float64) api.RootInfo { return api.RootInfo{R: square(r...), Z: z} }

// diagonal is a matrix with these numbers on its diagonal, +0 elsewhere.
func diagonal(d ...float64) api.Mat {
	m := square(make([]float64, len(d)*len(d))...)
	for i, x := range d {
		m.At[i*len(d)+i] = x
	}
	return m
}

func unit(n int) api.Mat { return diagonal(filled(n, 1)...) }

func noughts(n int) api.Mat { return diagonal(make([]float64, n)...) }

// with is a copy of a list with x at i.
func with(l []float64, i int, x float64) []float64 {
	l = slices.Clone(l)
	l[i] = x
	return l
}

// sameNumber tells of bits, those of NaNs and noughts too.
func sameNumber(a, b float64) bool { return math.Float64bits(a) == math.Float64bits(b) }

func sameList(a, b []float64) bool { return slices.EqualFunc(a, b, sameNumber) }

func sameMat(a, b api.Mat) bool {
	return a.Rows == b.Rows && a.Cols == b.Cols && sameList(a.At, b.At)
}

func sameInfo(a, b api.Info) bool { return sameList(a.V, b.V) && sameMat(a.Y, b.Y) }

func sameState(a, b api.State) bool { return sameList(a.X, b.X) && sameMat(a.P, b.P) }

func sameRoot(a, b api.RootInfo) bool { return sameList(a.Z, b.Z) && sameMat(a.R, b.R) }

// few stops a test that has found enough.
func few(t *testing.T, wrong *int) {
	t.Helper()
	if *wrong++; *wrong > 10 {
		t.FailNow()
	}
}

// enough tells if something was met too seldom to be held.
func enough(t *testing.T, what string, asked, least int) {
	t.Helper()
	if asked < least {
		t.Errorf("%s: %d times, not %d", what, asked, least)
	}
}

// unfit are numbers that aren't finite.
func unfit() []float64 {
	return list(inf, -inf, nan, -nan, math.Float64frombits(0x7ff0000000000001), math.Float64frombits(0xffffffffffffffff))
}

// oneOf is one of a list.
func oneOf[T any](r *rand.Rand, l ...T) T { return l[r.Intn(len(l))] }

// signed is a number with a sign by chance.
func signed(r *rand.Rand, x float64) float64 { return math.Copysign(x, float64(r.Intn(2))-0.5) }

// between is a number above 0 of a power of 2 from low to high, both among them.
func between(r *rand.Rand, low, high int) float64 {
	return min(math.Ldexp(1+r.Float64(), low+r.Intn(high-low+1)), math.Ldexp(1, high))
}

// anyFinite is a finite number: of one size, of any size, whole, at an end, a nought.
func anyFinite(r *rand.Rand) float64 {
	x := 0.0
	switch r.Intn(6) {
	case 0, 1:
		x = between(r, -4, 4)
	case 2:
		x = between(r, -1074, 1023)
	case 3:
		x = float64(r.Intn(20))
	case 4:
		x = oneOf(r, least, 0x1p-1022, 0x1p-537, 1, 0x1p512, 0x1p1023, most)
	}
	return signed(r, x)
}

// numbers are n finite ones, at times all of one size.
func numbers(r *rand.Rand, n int) []float64 {
	out := make([]float64, n)
	mild := r.Intn(2) == 0
	for i := range out {
		out[i] = oneOf(r, r.NormFloat64(), r.NormFloat64(), float64(r.Intn(9)-4))
		if !mild && r.Intn(2) == 0 {
			out[i] = anyFinite(r)
		}
	}
	return out
}

// The kinds of informations that chance brings; covariances and roots are of the same ones.
const (
	kindWhole  = iota // small whole numbers
	kindMild          // all of one size
	kindWide          // rows of unlike sizes
	kindNarrow        // nearly singular
	kindGreat         // near the end of what numbers hold
	kindSmall         // and near the other one
	kinds
)

// gram is B B' + d I by sums that needn't be exact.
func gram(n int, number func() float64, d float64) api.Mat {
	b := make([]float64, n*n)
	for i := range b {
		b[i] = number()
	}
	return mirroredOf(n, func(i, j int) float64 {
		x := 0.0
		for k := range n {
			x += float64(b[i*n+k] * b[j*n+k])
		}
		if i == j {
			x += d
		}
		return x
	})
}

// scaled is a symmetric matrix whose rows and columns are taken times powers of 2.
func scaled(m api.Mat, by func() int) api.Mat {
	d := make([]int, m.Rows)
	for i := range d {
		d[i] = by()
	}
	return mirroredOf(m.Rows, func(i, j int) float64 { return math.Ldexp(m.At[i*m.Cols+j], d[i]+d[j]) })
}

// narrow is nearly c c', often exactly so but for a little here and there: if it is positive at all then only just, so that triangles and inverses of it are refused at times.
func narrow(r *rand.Rand, n int) api.Mat {
	c := make([]float64, n)
	by := oneOf(r, 0, 1)
	for i := range c {
		c[i] = float64(1<<26 + r.Intn(1<<26))
		if by == 1 {
			c[i] = float64(1 + r.Intn(20))
		}
	}
	unit := oneOf(r, 1, 0x1p-40, 0x1p-44)
	return mirroredOf(n, func(i, j int) float64 {
		little := r.Intn(3) - 1
		if i == j && i > 0 {
			little = r.Intn(4)
		}
		return float64(c[i]*c[j]) + float64(little)*unit
	})
}

// unsteady is a positive matrix, if only just, whose rounded inverse isn't.
func unsteady() api.Mat { return square(3, 3, 3, 3+0x1p-50) }

// tight is a positive matrix, if only just, whose rounded triangle is refused.
func tight() api.Mat { return square(3, 3, 3, 3+0x1p-51) }

// far is a positive matrix whose triangle goes over.
func far() api.Mat {
	return square(
		0x1.74d145b7351e2p+1023, 0x1.c6ff32a407bddp+1022, 0x1.ba65906b5ba93p+1022, 0x1.8add6556bc0d4p+1023,
		0x1.c6ff32a407bddp+1022, 0x1.15a53c36afd88p+1022, 0x1.0df4e88f47cbep+1022, 0x1.e1e771aaa2765p+1022,
		0x1.ba65906b5ba93p+1022, 0x1.0df4e88f47cbep+1022, 0x1.067b1711fd3e5p+1022, 0x1.d48f0e3b6e18cp+1022,
		0x1.8add6556bc0d4p+1023, 0x1.e1e771aaa2765p+1022, 0x1.d48f0e3b6e18cp+1022, 0x1.a2374bf38a668p+1023)
}

// positive is a positive matrix, whatever its kind.
func positive(r *rand.Rand, kind, n int) api.Mat {
	mild := func() float64 { return r.NormFloat64() }
	for {
		var m api.Mat
		switch kind {
		case kindWhole:
			m = gram(n, func() float64 { return float64(r.Intn(7) - 3) }, float64(1+r.Intn(5)))
		case kindMild:
			m = gram(n, mild, 0x1p-4)
		case kindWide:
			m = scaled(gram(n, mild, 0x1p-4), func() int { return r.Intn(601) - 300 })
		case kindNarrow:
			m = narrow(r, min(n, 3))
			if n > 1 && r.Intn(3) == 0 {
				m = scaled(oneOf(r, unsteady(), tight()), func() int { return r.Intn(9) - 4 })
			}
			if n > m.Rows {
				m = beside(m, gram(n-m.Rows, mild, 1))
			}
		case kindGreat:
			m = scaled(gram(n, mild, 1), func() int { return 500 + r.Intn(12) })
		case kindSmall:
			m = scaled(gram(n, mild, 1), func() int { return -510 - r.Intn(16) })
		}
		if isFiniteList(m.At) && isPositiveMat(m) {
			return m
		}
	}
}

// beside is a matrix of two that don't hang together.
func beside(a, b api.Mat) api.Mat {
	return mirroredOf(a.Rows+b.Rows, func(i, j int) float64 {
		switch {
		case i < a.Rows:
			return a.At[i*a.Cols+j]
		case j >= a.Rows:
			return b.At[(i-a.Rows)*b.Cols+j-a.Rows]
		}
		return 0
	})
}

// fitInfo is an information that may be, of n numbers.
func fitInfo(r *rand.Rand, kind, n int) api.Info {
	return api.Info{Y: positive(r, kind, n), V: numbers(r, n)}
}

// fitState is a state that may be.
func fitState(r *rand.Rand, kind, n int) api.State {
	return api.State{P: positive(r, kind, n), X: numbers(r, n)}
}

// fitRoot is a root that may be.
func fitRoot(r *rand.Rand, kind, n int) api.RootInfo {
	m := noughts(n)
	low, high := -2, 2
	switch kind {
	case kindNarrow:
		low, high = -30, -10
	case kindGreat:
		low, high = oneOf(r, 490, 1015), oneOf(r, 511, 1023)
	case kindSmall:
		low, high = oneOf(r, -540, -1074), oneOf(r, -530, -536)
	}
	for i := range n {
		by := 0
		if kind == kindWide {
			by = r.Intn(601) - 300
		}
		for j := i; j < n; j++ {
			x := between(r, min(low, high), max(low, high))
			switch {
			case kind == kindWhole:
				x = float64(1 + r.Intn(5))
			case kind == kindNarrow && i != j:
				x = r.NormFloat64()
			}
			if i != j {
				x = signed(r, oneOf(r, x, x, 0))
			}
			m.At[i*n+j] = math.Ldexp(x, by)
		}
	}
	return api.RootInfo{R: m, Z: numbers(r, n)}
}

// anySize is how many numbers there are: more of the small ones.
func anySize(r *rand.Rand) int {
	return oneOf(r, 0, 1, 1, 2, 2, 2, 3, 3, 4, 5, oneOf(r, 6, 8, 11, 12))
}

// spoilMat makes something of a matrix wrong.
func spoilMat(r *rand.Rand, m *api.Mat) {
	switch r.Intn(6) {
	case 0:
		m.Rows = oneOf(r, -1, 13, math.MaxInt, math.MinInt, m.Rows+1)
	case 1:
		m.Cols = oneOf(r, -1, 13, math.MaxInt, math.MinInt, m.Cols+1)
	case 2:
		m.At = append(m.At, 1)
	case 3:
		m.At = m.At[:max(0, len(m.At)-1)]
	case 4:
		if len(m.At) > 0 {
			m.At[r.Intn(len(m.At))] = oneOf(r, unfit()...)
		}
	case 5:
		n := r.Intn(13)
		*m = mat(n, r.Intn(13))
		m.At = filled(n*m.Cols, 1)
	}
}

// spoilList makes something of a list wrong.
func spoilList(r *rand.Rand, l *[]float64) {
	switch r.Intn(3) {
	case 0:
		*l = append(*l, 1)
	case 1:
		*l = (*l)[:max(0, len(*l)-1)]
	case 2:
		if len(*l) > 0 {
			(*l)[r.Intn(len(*l))] = oneOf(r, unfit()...)
		}
	}
}

// spoilNumber changes one of a matrix's numbers by a bit, by its sign, or wholly.
func spoilNumber(r *rand.Rand, m *api.Mat) {
	if len(m.At) == 0 {
		return
	}
	i := r.Intn(len(m.At))
	m.At[i] = oneOf(r, -m.At[i], math.Float64frombits(math.Float64bits(m.At[i])^1), anyFinite(r), 0, minus)
}

// spoilDiagonal changes the diagonal of a matrix of so many rows.
func spoilDiagonal(r *rand.Rand, m *api.Mat, n int) {
	for i := 0; i < len(m.At); i += n + 1 {
		m.At[i] = oneOf(r, m.At[i], 0, minus, -m.At[i], m.At[i]/4)
	}
}

// spoil makes something of a symmetric matrix and its list wrong, at times.
func spoil(r *rand.Rand, m *api.Mat, l *[]float64) {
	if r.Intn(8) != 0 {
		return
	}
	for range 1 + r.Intn(2) {
		switch r.Intn(4) {
		case 0:
			spoilMat(r, m)
		case 1:
			spoilList(r, l)
		case 2:
			spoilNumber(r, m)
		case 3:
			spoilDiagonal(r, m, len(*l))
		}
	}
}

// anyInfo is one of each sort.
func anyInfo(r *rand.Rand, n int) api.Info {
	a := fitInfo(r, r.Intn(kinds), n)
	spoil(r, &a.Y, &a.V)
	return a
}

func anyState(r *rand.Rand, n int) api.State {
	s := fitState(r, r.Intn(kinds), n)
	spoil(r, &s.P, &s.X)
	return s
}

func anyRoot(r *rand.Rand, n int) api.RootInfo {
	a := fitRoot(r, r.Intn(kinds), n)
	spoil(r, &a.R, &a.Z)
	return a
}

// fitMove is a transition of n numbers and its noise.
func fitMove(r *rand.Rand, n int) (f, q api.Mat) {
	f = noughts(n)
	number := oneOf(r,
		func() float64 { return float64(r.Intn(5) - 2) },
		func() float64 { return r.NormFloat64() },
		func() float64 { return signed(r, between(r, -300, 300)) },
		func() float64 { return 0 },
		func() float64 { return anyFinite(r) },
	)
	for i := range f.At {
		f.At[i] = number()
	}
	if r.Intn(3) == 0 {
		f = unit(n)
	}
	q = positive(r, r.Intn(kinds), n)
	switch r.Intn(5) {
	case 0, 1:
		q = noughts(n)
	case 2:
		for i := range q.At {
			q.At[i] = -q.At[i]
		}
	}
	return f, q
}

// anyMove is one of each sort.
func anyMove(r *rand.Rand, n int) (f, q api.Mat) {
	if r.Intn(12) == 0 {
		n = min(n+1, 12)
	}
	f, q = fitMove(r, n)
	if r.Intn(10) == 0 {
		spoilMat(r, &f)
	}
	if r.Intn(10) == 0 {
		spoilMat(r, &q)
	}
	if r.Intn(10) == 0 {
		spoilNumber(r, &q)
	}
	return f, q
}

// fitRow is what a sensor sees of n numbers.
func fitRow(r *rand.Rand, n int) []float64 {
	h := make([]float64, n)
	number := oneOf(r,
		func() float64 { return float64(r.Intn(5) - 2) },
		func() float64 { return r.NormFloat64() },
		func() float64 { return oneOf(r, 0, minus, r.NormFloat64()) },
		func() float64 { return signed(r, between(r, -300, 300)) },
		func() float64 { return anyFinite(r) },
		func() float64 { return oneOf(r, 0, minus) },
	)
	for i := range h {
		h[i] = number()
	}
	return h
}

// greatRow is one beside which what was known is lost: its square alone isn't positive.
func greatRow(r *rand.Rand, n int) []float64 {
	h := make([]float64, n)
	for i := range h {
		h[i] = math.Ldexp(float64(1+r.Intn(9)), 60+r.Intn(2))
	}
	return h
}

// smallRow is one beside which a small root's squares may all fall to 0.
func smallRow(r *rand.Rand, n int) []float64 {
	h := make([]float64, n)
	for i := range h {
		h[i] = signed(r, oneOf(r, 0, between(r, -545, -530), between(r, -1074, -540)))
	}
	return h
}

func fitVariance(r *rand.Rand) float64 {
	return oneOf(r, 1, float64(1+r.Intn(9)), between(r, -4, 4), between(r, -60, 0), between(r, -1074, 1023), least, most)
}

// anyVariance is one of each sort.
func anyVariance(r *rand.Rand) float64 {
	if r.Intn(12) == 0 {
		return oneOf(r, append(unfit(), 0, minus, -1, -least, -most)...)
	}
	return fitVariance(r)
}

func anyRow(r *rand.Rand, n int) []float64 {
	h := oneOf(r, fitRow, fitRow, fitRow, greatRow, smallRow)(r, n)
	if r.Intn(10) == 0 {
		spoilList(r, &h)
	}
	return h
}

func anyValue(r *rand.Rand) float64 {
	if r.Intn(16) == 0 {
		return oneOf(r, unfit()...)
	}
	return oneOf(r, anyFinite(r), r.NormFloat64(), float64(r.Intn(9)))
}

// anyRows are some rows, of most kinds, with their variances and values.
func anyRows(r *rand.Rand, n int) (h api.Mat, v, z []float64) {
	h = mat(oneOf(r, 0, 1, 2, 3, 3, r.Intn(13)), n)
	for range h.Rows {
		h.At = append(h.At, oneOf(r, fitRow(r, n), filled(n, 1), filled(n, 0), filled(n, r.NormFloat64()), greatRow(r, n))...)
		v = append(v, oneOf(r, 1, 2, between(r, -4, 4), anyVariance(r)))
		z = append(z, oneOf(r, 1, 2, between(r, -4, 4), anyValue(r)))
	}
	switch r.Intn(14) {
	case 0:
		spoilMat(r, &h)
	case 1:
		v = append(v, 1)
	case 2:
		z = append(z, 1)
	case 3:
		v = v[:max(0, len(v)-1)]
	case 4:
		z = z[:max(0, len(z)-1)]
	}
	return h, v, z
}
