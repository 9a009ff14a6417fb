package root_test

import (
	"math"
	"math/rand"
	"slices"
	"testing"

	"binnacle/api"
)

var (
	inf   = math.Inf(1)
	minus = math.Copysign(0, -1)
	nan   = math.NaN()
)

const (
	most   = math.MaxFloat64
	least  = 0x1p-1074
	end    = int64(1) << 50 // the last time
	second = int64(1000000)
)

func mat(rows, cols int, at ...float64) api.Mat { return api.Mat{Rows: rows, Cols: cols, At: at} }

// square is a matrix of as many rows as its numbers allow.
func square(at ...float64) api.Mat {
	n := 0
	for n*n < len(at) {
		n++
	}
	return mat(n, n, at...)
}

func list(x ...float64) []float64 { return x }

// filled is a list of n times x.
func filled(n int, x float64) []float64 { return slices.Repeat(list(x), n) }

func rootOf(x []float64, l ...float64) api.Root { return api.Root{X: x, L: square(l...)} }

func state(x []float64, p ...float64) api.State { return api.State{X: x, P: square(p...)} }

// diagonal is a matrix with these numbers on its diagonal, +0 elsewhere.
func diagonal(d ...float64) api.Mat {
	m := square(make([]float64, len(d)*len(d))...)
	for i, x := range d {
		m.At[i*len(d)+i] = x
	}
	return m
}

func unit(n int) api.Mat { return diagonal(filled(n, 1)...) }

func noughts(n int) api.Mat { return diagonal(make([]float64, n)...) }

// with is a copy of a list with x at i.
func with(l []float64, i int, x float64) []float64 {
	l = slices.Clone(l)
	l[i] = x
	return l
}

func part(kind, axes int, noise, fade float64) api.Part {
	return api.Part{Kind: kind, Axes: axes, Noise: noise, Fade: fade}
}

func motion(p ...api.Part) api.Motion { return api.Motion{Parts: p} }

// sameNumber tells of bits, those of NaNs and noughts too.
func sameNumber(a, b float64) bool { return math.Float64bits(a) == math.Float64bits(b) }

func sameList(a, b []float64) bool { return slices.EqualFunc(a, b, sameNumber) }

func sameMat(a, b api.Mat) bool {
	return a.Rows == b.Rows && a.Cols == b.Cols && sameList(a.At, b.At)
}

func sameRoot(a, b api.Root) bool { return sameList(a.X, b.X) && sameMat(a.L, b.L) }

func sameState(a, b api.State) bool { return sameList(a.X, b.X) && sameMat(a.P, b.P) }

func sameStep(a, b api.Step) bool {
	return sameList(list(a.Innov, a.Var, a.Score), list(b.Innov, b.Var, b.Score)) && sameList(a.Gain, b.Gain)
}

// few stops a test that has found enough.
func few(t *testing.T, wrong *int) {
	t.Helper()
	if *wrong++; *wrong > 10 {
		t.FailNow()
	}
}

// enough tells if something was met too seldom to be held.
func enough(t *testing.T, what string, asked, least int) {
	t.Helper()
	if asked < least {
		t.Errorf("%s: %d times, not %d", what, asked, least)
	}
}

// unfit are numbers that aren't finite.
func unfit() []float64 {
	return list(inf, -inf, nan, -nan, math.Float64frombits(0x7ff0000000000001), math.Float64frombits(0xffffffffffffffff))
}

// oneOf is one of a list.
func oneOf[T any](r *rand.Rand, l ...T) T { return l[r.Intn(len(l))] }

// signed is a number with a sign by chance.
func signed(r *rand.Rand, x float64) float64 { return math.Copysign(x, float64(r.Intn(2))-0.5) }

// between is a number above 0 of a power of 2 from low to high, both among them.
func between(r *rand.Rand, low, high int) float64 {
	return min(math.Ldexp(1+r.Float64(), low+r.Intn(high-low+1)), math.Ldexp(1, high))
}

// anyFinite is a finite number: of one size, of any size, whole, at an end, a nought.
func anyFinite(r *rand.Rand) float64 {
	x := 0.0
	switch r.Intn(6) {
	case 0, 1:
		x = between(r, -4, 4)
	case 2:
		x = between(r, -1074, 1023)
	case 3:
		x = float64(r.Intn(20))
	case 4:
		x = oneOf(r, least, 0x1p-1022, 0x1p-537, 1, 0x1p512, 0x1p1023, most)
	}
	return signed(r, x)
}

// The kinds of triangles that chance brings.
const (
	kindWhole  = iota // small whole numbers
	kindMild          // all of one size
	kindWide          // rows of unlike sizes
	kindNarrow        // whose square is nearly singular
	kindGreat         // whose square is near the end of what numbers hold
	kindSmall         // and near the other one
	kindFar           // near the end by itself
	kindLeast         // and near the other one
	kinds
)

// numberOf is how numbers of a kind of triangle are made, those of the diagonal above 0.
func numberOf(r *rand.Rand, kind int) func(diagonal bool) float64 {
	sized := func(low, high int) func(bool) float64 {
		return func(diagonal bool) float64 {
			if diagonal {
				return between(r, low, high)
			}
			return signed(r, oneOf(r, 0, between(r, low, high), between(r, low, high)))
		}
	}
	switch kind {
	case kindWhole:
		return func(diagonal bool) float64 {
			if diagonal {
				return float64(1 + r.Intn(5))
			}
			return float64(r.Intn(7) - 3)
		}
	case kindNarrow:
		return func(diagonal bool) float64 {
			if diagonal {
				return between(r, -30, -10)
			}
			return r.NormFloat64()
		}
	case kindGreat:
		return sized(500, 511)
	case kindSmall:
		return sized(-540, -510)
	case kindFar:
		return sized(1000, 1023)
	case kindLeast:
		return sized(-1074, -1060)
	}
	return func(diagonal bool) float64 {
		if diagonal {
			return math.Abs(r.NormFloat64()) + 0x1p-4
		}
		return signed(r, oneOf(r, r.NormFloat64(), r.NormFloat64(), 0))
	}
}

// triangle is one that a root may have, whatever its kind.
func triangle(r *rand.Rand, kind, n int) api.Mat {
	number := numberOf(r, kind)
	m := noughts(n)
	for i := range n {
		by := 0
		if kind == kindWide {
			by = r.Intn(601) - 300
		}
		for j := range i + 1 {
			m.At[i*n+j] = math.Ldexp(number(i == j), by)
		}
	}
	return m
}

// fitRoot is a root that may be, of n numbers; at times nothing is known of where it is, so that no row goes over by that.
func fitRoot(r *rand.Rand, kind, n int) api.Root {
	s := api.Root{X: make([]float64, n), L: triangle(r, kind, n)}
	if r.Intn(3) == 0 {
		return s
	}
	for i := range n {
		s.X[i] = oneOf(r, anyFinite(r), r.NormFloat64(), float64(r.Intn(9)-4))
	}
	return s
}

// anySize is how many numbers a root has: more of the small ones.
func anySize(r *rand.Rand) int {
	return oneOf(r, 0, 1, 1, 2, 2, 2, 3, 3, 4, 5, oneOf(r, 6, 8, 11, 12))
}

// spoilMat makes something of a matrix wrong.
func spoilMat(r *rand.Rand, m *api.Mat) {
	switch r.Intn(6) {
	case 0:
		m.Rows = oneOf(r, -1, 13, math.MaxInt, math.MinInt, m.Rows+1)
	case 1:
		m.Cols = oneOf(r, -1, 13, math.MaxInt, math.MinInt, m.Cols+1)
	case 2:
		m.At = append(m.At, 1)
	case 3:
		m.At = m.At[:max(0, len(m.At)-1)]
	case 4:
		if len(m.At) > 0 {
			m.At[r.Intn(len(m.At))] = oneOf(r, unfit()...)
		}
	case 5:
		n := r.Intn(13)
		*m = mat(n, r.Intn(13))
		m.At = filled(n*m.Cols, 1)
	}
}

// spoilList makes something of a list wrong.
func spoilList(r *rand.Rand, l *[]float64) {
	switch r.Intn(3) {
	case 0:
		*l = append(*l, 1)
	case 1:
		*l = (*l)[:max(0, len(*l)-1)]
	case 2:
		if len(*l) > 0 {
			(*l)[r.Intn(len(*l))] = oneOf(r, unfit()...)
		}
	}
}

// spoil makes something of a root wrong.
func spoil(r *rand.Rand, s *api.Root) {
	n := len(s.X)
	switch r.Intn(4) {
	case 0:
		spoilMat(r, &s.L)
	case 1:
		spoilList(r, &s.X)
	case 2:
		if n > 1 && len(s.L.At) == n*n {
			i := r.Intn(n - 1)
			s.L.At[i*n+i+1+r.Intn(n-1-i)] = oneOf(r, minus, 1, -1, least, anyFinite(r))
		}
	case 3:
		if n > 0 && len(s.L.At) == n*n {
			i := r.Intn(n)
			s.L.At[i*n+i] = oneOf(r, 0, minus, -s.L.At[i*n+i], -least, anyFinite(r))
		}
	}
}

// anyRoot is one of each sort.
func anyRoot(r *rand.Rand) api.Root {
	s := fitRoot(r, r.Intn(kinds), anySize(r))
	if r.Intn(8) == 0 {
		for range 1 + r.Intn(2) {
			spoil(r, &s)
		}
	}
	return s
}

// gram is L L' and a little on its diagonal, by sums that needn't be exact.
func gram(l api.Mat, little float64) api.Mat {
	n := l.Rows
	return mirroredOf(n, func(i, j int) float64 {
		x := 0.0
		for k := range n {
			x += float64(l.At[i*n+k] * l.At[j*n+k])
		}
		if i == j {
			x += little
		}
		return x
	})
}

// narrowState is one whose covariance is c c' and a little here and there, exactly: positive, if only just, so that its triangle is refused at times; near the end of what numbers hold it goes over.
func narrowState(r *rand.Rand, n, by int) api.State {
	c := make([]float64, n)
	for i := range c {
		c[i] = float64(1<<26 + r.Intn(1<<26))
	}
	p := mirroredOf(n, func(i, j int) float64 {
		little := r.Intn(3) - 1
		if i == j && i > 0 {
			little = r.Intn(4)
		}
		return math.Ldexp(c[i]*c[j]+float64(little), by)
	})
	return api.State{X: filled(n, r.NormFloat64()), P: p}
}

// stateThatGoesOver is one that may be, but whose triangle goes over.
func stateThatGoesOver() api.State {
	return state(list(1, 2, 3, 4),
		0x1.74d145b7351e2p+1023, 0x1.c6ff32a407bddp+1022, 0x1.ba65906b5ba93p+1022, 0x1.8add6556bc0d4p+1023,
		0x1.c6ff32a407bddp+1022, 0x1.15a53c36afd88p+1022, 0x1.0df4e88f47cbep+1022, 0x1.e1e771aaa2765p+1022,
		0x1.ba65906b5ba93p+1022, 0x1.0df4e88f47cbep+1022, 0x1.067b1711fd3e5p+1022, 0x1.d48f0e3b6e18cp+1022,
		0x1.8add6556bc0d4p+1023, 0x1.e1e771aaa2765p+1022, 0x1.d48f0e3b6e18cp+1022, 0x1.a2374bf38a668p+1023)
}

// fitState is one of n numbers that nearly always may be.
func fitState(r *rand.Rand, n int) api.State {
	s := api.State{X: filled(n, oneOf(r, 0, minus, r.NormFloat64(), anyFinite(r)))}
	switch r.Intn(4) {
	case 0:
		s.P = gram(triangle(r, kindWhole, n), 0)
	case 1:
		s.P = gram(triangle(r, kindMild, n), 0x1p-4)
	case 2:
		l := triangle(r, kindMild, n)
		for i := range n {
			by := r.Intn(601) - 300
			for j := range i + 1 {
				l.At[i*n+j] = math.Ldexp(l.At[i*n+j], by)
			}
		}
		s.P = gram(l, 0)
	case 3:
		s.P = gram(triangle(r, oneOf(r, kindGreat, kindSmall), n), 0)
	}
	return s
}

// anyState is one of each sort.
func anyState(r *rand.Rand) api.State {
	switch r.Intn(12) {
	case 0, 1:
		return narrowState(r, 1+r.Intn(5), r.Intn(20))
	case 2:
		return narrowState(r, 4, 970)
	case 3:
		if r.Intn(4) == 0 {
			return stateThatGoesOver()
		}
	}
	s := fitState(r, anySize(r))
	n := len(s.X)
	switch r.Intn(24) {
	case 0:
		spoilMat(r, &s.P)
	case 1:
		spoilList(r, &s.X)
	case 2:
		if n > 1 {
			i := 1 + r.Intn(n-1)
			s.P.At[i] = math.Float64frombits(math.Float64bits(s.P.At[i]) ^ 1)
		}
	case 3:
		if n > 0 {
			i := r.Intn(n)
			s.P.At[i*n+i] = oneOf(r, 0, minus, -1, s.P.At[i*n+i]/8)
		}
	}
	return s
}

// fitMove is a transition of n numbers and a root of its noise.
func fitMove(r *rand.Rand, n int) (f, g api.Mat) {
	f = noughts(n)
	number := oneOf(r,
		func() float64 { return float64(r.Intn(5) - 2) },
		func() float64 { return r.NormFloat64() },
		func() float64 { return signed(r, between(r, -600, 600)) },
		func() float64 { return 0 },
		func() float64 { return anyFinite(r) },
	)
	for i := range f.At {
		f.At[i] = number()
	}
	if r.Intn(3) == 0 {
		f = unit(n)
	}
	cols := oneOf(r, n, n, 0, 1, r.Intn(13))
	g = mat(n, cols)
	by := oneOf(r, 0, 0, 0, -1000, 400, 1000)
	for range n * cols {
		g.At = append(g.At, math.Ldexp(oneOf(r, r.NormFloat64(), r.NormFloat64(), 0, minus, float64(r.Intn(5)-2)), by))
	}
	if r.Intn(5) == 0 {
		g = noughts(n)
	}
	return f, g
}

// anyMove is one of each sort.
func anyMove(r *rand.Rand, n int) (f, g api.Mat) {
	n = max(0, min(n, 12))
	f, g = fitMove(r, n)
	if r.Intn(24) == 0 {
		f, _ = fitMove(r, min(n+1, 12))
	}
	if r.Intn(24) == 0 {
		_, g = fitMove(r, min(n+1, 12))
	}
	if r.Intn(12) == 0 {
		spoilMat(r, &f)
	}
	if r.Intn(12) == 0 {
		spoilMat(r, &g)
	}
	return f, g
}

// moving is a motion of n numbers, or nearly so.
func moving(r *rand.Rand, n int) api.Motion {
	var m api.Motion
	for n > 0 {
		kind := r.Intn(5)
		orders := []int{1, 1, 2, 3, 1}[kind]
		if orders > n {
			continue
		}
		axes := 1 + r.Intn(n/orders)
		m.Parts = append(m.Parts, part(kind, axes, oneOf(r, 0, 1, between(r, -10, 10), between(r, -100, 100)), oneOf(r, 0, 1, between(r, -20, 20))))
		n -= orders * axes
	}
	return m
}

func anyMotion(r *rand.Rand, n int) api.Motion {
	m := moving(r, max(0, min(12, n+oneOf(r, 0, 0, 0, 0, 0, 0, 0, 0, 0, 1, -1))))
	if len(m.Parts) > 0 && r.Intn(8) == 0 {
		p := &m.Parts[r.Intn(len(m.Parts))]
		switch r.Intn(4) {
		case 0:
			p.Kind = oneOf(r, -1, 5)
		case 1:
			p.Axes = oneOf(r, 0, 12, 13)
		case 2:
			p.Noise = oneOf(r, -1, 0x1p101, nan, inf)
		case 3:
			p.Fade = oneOf(r, -1, 0x1p101, nan, inf)
		}
	}
	return m
}

func anyTicks(r *rand.Rand) int64 {
	if r.Intn(10) == 0 {
		return oneOf(r, -1, end+1, math.MaxInt64, math.MinInt64)
	}
	return oneOf(r, 0, 1, second, second/10, second*r.Int63n(1000), end, r.Int63n(end)>>r.Intn(50))
}

// fitRow is what a sensor sees of n numbers.
func fitRow(r *rand.Rand, n int) []float64 {
	h := make([]float64, n)
	number := oneOf(r,
		func() float64 { return float64(r.Intn(5) - 2) },
		func() float64 { return r.NormFloat64() },
		func() float64 { return signed(r, between(r, -300, 300)) },
		func() float64 { return anyFinite(r) },
		func() float64 { return oneOf(r, 0, minus) },
	)
	for i := range h {
		h[i] = number()
	}
	return h
}

// keenRow is one that sees of a triangle about as much as its variance is great, or far more.
func keenRow(r *rand.Rand, l api.Mat) (h []float64, variance float64) {
	h = make([]float64, l.Rows)
	seen := -1074
	for i := range h {
		_, e := math.Frexp(l.At[i*l.Cols+i])
		h[i] = signed(r, math.Ldexp(between(r, -2, 2), max(-1060, min(1020, -e))))
		_, by := math.Frexp(h[i])
		seen = max(seen, e+by)
	}
	return h, max(least, math.Ldexp(1+r.Float64(), 2*(seen-r.Intn(40))))
}

func fitVariance(r *rand.Rand) float64 {
	return oneOf(r, 1, float64(1+r.Intn(9)), between(r, -4, 4), between(r, -60, 0), between(r, -1074, 1023), least, most)
}

// anyVariance is one of each sort.
func anyVariance(r *rand.Rand) float64 {
	if r.Intn(12) == 0 {
		return oneOf(r, append(unfit(), 0, minus, -1, -least, -most)...)
	}
	return fitVariance(r)
}

func anyRow(r *rand.Rand, n int) []float64 {
	h := fitRow(r, n)
	if r.Intn(5) == 0 {
		spoilList(r, &h)
	}
	return h
}

func anyValue(r *rand.Rand) float64 {
	if r.Intn(16) == 0 {
		return oneOf(r, unfit()...)
	}
	return oneOf(r, anyFinite(r), r.NormFloat64(), float64(r.Intn(9)))
}

// anyRows are some rows, of most kinds, with their variances and values.
func anyRows(r *rand.Rand, n int) (h api.Mat, v, z []float64) {
	n = max(0, min(12, n))
	h = mat(oneOf(r, 0, 1, 2, 3, 3, r.Intn(13)), n)
	for range h.Rows {
		h.At = append(h.At, oneOf(r, fitRow(r, n), filled(n, 1), filled(n, 0), filled(n, r.NormFloat64()))...)
		v = append(v, oneOf(r, 1, 2, between(r, -4, 4), anyVariance(r)))
		z = append(z, oneOf(r, 1, 2, between(r, -4, 4), anyValue(r)))
	}
	switch r.Intn(14) {
	case 0:
		spoilMat(r, &h)
	case 1:
		v = append(v, 1)
	case 2:
		z = append(z, 1)
	case 3:
		v = v[:max(0, len(v)-1)]
	case 4:
		z = z[:max(0, len(z)-1)]
	}
	return h, v, z
}

// place is somewhere in a space of n numbers.
func place(r *rand.Rand, n int) []float64 {
	x := make([]float64, n)
	for i := range x {
		x[i] = oneOf(r, anyFinite(r), r.NormFloat64(), r.NormFloat64())
	}
	return x
}
