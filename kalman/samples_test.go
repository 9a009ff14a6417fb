package kalman_test

import (
	"math"
	"math/rand"
	"slices"
	"testing"

	"binnacle/api"
)

var (
	inf   = math.Inf(1)
	minus = math.Copysign(0, -1)
	nan   = math.NaN()
)

const (
	most   = math.MaxFloat64
	least  = 0x1p-1074
	end    = int64(1) << 50 // the last time
	second = int64(1000000)
)

func mat(rows, cols int, at ...float64) api.Mat { return api.Mat{Rows: rows, Cols: cols, At: at} }

// square is a matrix of as many rows as its numbers allow.
func square(at ...float64) api.Mat {
	n := 0
	for n*n < len(at) {
		n++
	}
	return mat(n, n, at...)
}

func list(x ...float64) []float64 { return x }

// filled is a list of n times x.
func filled(n int, x float64) []float64 { return slices.Repeat(list(x), n) }

func state(x []float64, p ...float64) api.State { return api.State{X: x, P: square(p...)} }

// diagonal is a matrix with these numbers on its diagonal, +0 elsewhere.
func diagonal(d ...float64) api.Mat {
	m := square(make([]float64, len(d)*len(d))...)
	for i, x := range d {
		m.At[i*len(d)+i] = x
	}
	return m
}

func unit(n int) api.Mat { return diagonal(filled(n, 1)...) }

func noughts(n int) api.Mat { return diagonal(make([]float64, n)...) }

// with is a copy of a list with x at i.
func with(l []float64, i int, x float64) []float64 {
	l = slices.Clone(l)
	l[i] = x
	return l
}

func part(kind, axes int, noise, fade float64) api.Part {
	return api.Part{Kind: kind, Axes: axes, Noise: noise, Fade: fade}
}

func motion(p ...api.Part) api.Motion { return api.Motion{Parts: p} }

// sameNumber tells of bits, those of NaNs and noughts too.
func sameNumber(a, b float64) bool { return math.Float64bits(a) == math.Float64bits(b) }

func sameList(a, b []float64) bool { return slices.EqualFunc(a, b, sameNumber) }

func sameMat(a, b api.Mat) bool {
	return a.Rows == b.Rows && a.Cols == b.Cols && sameList(a.At, b.At)
}

func sameState(a, b api.State) bool { return sameList(a.X, b.X) && sameMat(a.P, b.P) }

func sameStep(a, b api.Step) bool {
	return sameList(list(a.Innov, a.Var, a.Score), list(b.Innov, b.Var, b.Score)) && sameList(a.Gain, b.Gain)
}

// few stops a test that has found enough.
func few(t *testing.T, wrong *int) {
	t.Helper()
	if *wrong++; *wrong > 10 {
		t.FailNow()
	}
}

// enough tells if something was met too seldom to be held.
func enough(t *testing.T, what string, asked, least int) {
	t.Helper()
	if asked < least {
		t.Errorf("%s: %d times, not %d", what, asked, least)
	}
}

// unfit are numbers that aren't finite.
func unfit() []float64 {
	return list(inf, -inf, nan, -nan, math.Float64frombits(0x7ff0000000000001), math.Float64frombits(0xffffffffffffffff))
}

// oneOf is one of a list.
func oneOf[T any](r *rand.Rand, l ...T) T { return l[r.Intn(len(l))] }

// signed is a number with a sign by chance.
func signed(r *rand.Rand, x float64) float64 { return math.Copysign(x, float64(r.Intn(2))-0.5) }

// between is a number above 0 of a power of 2 from low to high, both among them.
func between(r *rand.Rand, low, high int) float64 {
	return min(math.Ldexp(1+r.Float64(), low+r.Intn(high-low+1)), math.Ldexp(1, high))
}

// anyFinite is a finite number: of one size, of any size, whole, at an end, a nought.
func anyFinite(r *rand.Rand) float64 {
	x := 0.0
	switch r.Intn(6) {
	case 0, 1:
		x = between(r, -4, 4)
	case 2:
		x = between(r, -1074, 1023)
	case 3:
		x = float64(r.Intn(20))
	case 4:
		x = oneOf(r, least, 0x1p-1022, 0x1p-537, 1, 0x1p512, 0x1p1023, most)
	}
	return signed(r, x)
}

// The kinds of covariances that chance brings.
const (
	kindWhole  = iota // small whole numbers
	kindMild          // all of one size
	kindWide          // rows of unlike sizes
	kindNarrow        // nearly singular
	kindGreat         // near the end of what numbers hold
	kindSmall         // and near the other one
	kinds
)

// gram is B B' + d I by sums that needn't be exact.
func gram(n int, number func() float64, d float64) api.Mat {
	b := make([]float64, n*n)
	for i := range b {
		b[i] = number()
	}
	m := noughts(n)
	for i := range n {
		for j := range i + 1 {
			x := 0.0
			for k := range n {
				x += float64(b[i*n+k] * b[j*n+k])
			}
			if i == j {
				x += d
			}
			m.At[i*n+j], m.At[j*n+i] = x, x
		}
	}
	return m
}

// scaled is a matrix whose rows and columns are taken times powers of 2.
func scaled(m api.Mat, by func() int) api.Mat {
	d := make([]int, m.Rows)
	for i := range d {
		d[i] = by()
	}
	for i := range d {
		for j := range d {
			m.At[i*m.Cols+j] = math.Ldexp(m.At[i*m.Cols+j], d[i]+d[j])
		}
	}
	return m
}

// narrow is c c' and a little, exactly: positive, if only just.
func narrow(r *rand.Rand, n int) api.Mat {
	c := make([]float64, n)
	for i := range c {
		c[i] = float64(1<<25 + r.Intn(1<<25))
	}
	m := noughts(n)
	for i := range c {
		for j := range c {
			m.At[i*n+j] = c[i] * c[j]
		}
		if i > 0 {
			m.At[i*n+i]++
		}
	}
	return m
}

// covariance is positive, whatever its kind.
func covariance(r *rand.Rand, kind, n int) api.Mat {
	mild := func() float64 { return r.NormFloat64() }
	for {
		var m api.Mat
		switch kind {
		case kindWhole:
			m = gram(n, func() float64 { return float64(r.Intn(7) - 3) }, float64(1+r.Intn(5)))
		case kindMild:
			m = gram(n, mild, 0x1p-4)
		case kindWide:
			m = scaled(gram(n, mild, 0x1p-4), func() int { return r.Intn(601) - 300 })
		case kindNarrow:
			m = narrow(r, n)
		case kindGreat:
			m = scaled(gram(n, mild, 1), func() int { return 500 + r.Intn(12) })
		case kindSmall:
			m = scaled(gram(n, mild, 1), func() int { return -510 - r.Intn(16) })
		}
		if isMirrored(m) && isFiniteList(m.At) && isPositive(m) {
			return m
		}
	}
}

// fitState is a state that may be, of n numbers.
func fitState(r *rand.Rand, kind, n int) api.State {
	s := api.State{P: covariance(r, kind, n)}
	for range n {
		s.X = append(s.X, oneOf(r, anyFinite(r), r.NormFloat64(), float64(r.Intn(9)-4)))
	}
	return s
}

// anySize is how many numbers a state has: more of the small ones.
func anySize(r *rand.Rand) int {
	return oneOf(r, 0, 1, 1, 2, 2, 2, 3, 3, 4, 5, oneOf(r, 6, 8, 11, 12))
}

// spoilMat makes something of a matrix wrong.
func spoilMat(r *rand.Rand, m *api.Mat) {
	switch r.Intn(6) {
	case 0:
		m.Rows = oneOf(r, -1, 13, math.MaxInt, math.MinInt, m.Rows+1)
	case 1:
		m.Cols = oneOf(r, -1, 13, math.MaxInt, math.MinInt, m.Cols+1)
	case 2:
		m.At = append(m.At, 1)
	case 3:
		m.At = m.At[:max(0, len(m.At)-1)]
	case 4:
		if len(m.At) > 0 {
			m.At[r.Intn(len(m.At))] = oneOf(r, unfit()...)
		}
	case 5:
		n := r.Intn(13)
		*m = mat(n, r.Intn(13))
		m.At = filled(n*m.Cols, 1)
	}
}

// spoilNumber changes one of a matrix's numbers by a bit, by its sign, or wholly.
func spoilNumber(r *rand.Rand, m *api.Mat) {
	if len(m.At) == 0 {
		return
	}
	i := r.Intn(len(m.At))
	m.At[i] = oneOf(r, -m.At[i], math.Float64frombits(math.Float64bits(m.At[i])^1), anyFinite(r))
}

// spoil makes something of a state wrong.
func spoil(r *rand.Rand, s *api.State) {
	switch r.Intn(6) {
	case 0:
		spoilMat(r, &s.P)
	case 1:
		s.X = append(s.X, 1)
	case 2:
		s.X = s.X[:max(0, len(s.X)-1)]
	case 3:
		if len(s.X) > 0 {
			s.X[r.Intn(len(s.X))] = oneOf(r, unfit()...)
		}
	case 4:
		spoilNumber(r, &s.P)
	case 5:
		for i := 0; i < len(s.P.At); i += len(s.X) + 1 {
			s.P.At[i] = oneOf(r, s.P.At[i], 0, minus, -s.P.At[i], s.P.At[i]/4)
		}
	}
}

// anyState is one of each sort.
func anyState(r *rand.Rand) api.State {
	s := fitState(r, r.Intn(kinds), anySize(r))
	if r.Intn(8) == 0 {
		for range 1 + r.Intn(2) {
			spoil(r, &s)
		}
	}
	return s
}

// fitMove is a transition of n numbers and its noise.
func fitMove(r *rand.Rand, n int) (f, q api.Mat) {
	f = noughts(n)
	number := oneOf(r,
		func() float64 { return float64(r.Intn(5) - 2) },
		func() float64 { return r.NormFloat64() },
		func() float64 { return signed(r, between(r, -600, 600)) },
		func() float64 { return 0 },
		func() float64 { return anyFinite(r) },
	)
	for i := range f.At {
		f.At[i] = number()
	}
	if r.Intn(3) == 0 {
		f = unit(n)
	}
	q = covariance(r, r.Intn(kinds), n)
	switch r.Intn(5) {
	case 0:
		q = noughts(n)
	case 1:
		for i := range q.At {
			q.At[i] = -q.At[i]
		}
	}
	return f, q
}

// anyMove is one of each sort.
func anyMove(r *rand.Rand, n int) (f, q api.Mat) {
	n = max(0, min(n, 12))
	if r.Intn(12) == 0 {
		n = min(n+1, 12)
	}
	f, q = fitMove(r, n)
	if r.Intn(10) == 0 {
		spoilMat(r, &f)
	}
	if r.Intn(10) == 0 {
		spoilMat(r, &q)
	}
	if r.Intn(10) == 0 {
		spoilNumber(r, &q)
	}
	return f, q
}

// moving is a motion of n numbers, or nearly so.
func moving(r *rand.Rand, n int) api.Motion {
	var m api.Motion
	for n > 0 {
		kind := r.Intn(5)
		orders := []int{1, 1, 2, 3, 1}[kind]
		if orders > n {
			continue
		}
		axes := 1 + r.Intn(n/orders)
		m.Parts = append(m.Parts, part(kind, axes, oneOf(r, 0, 1, between(r, -10, 10), between(r, -100, 100)), oneOf(r, 0, 1, between(r, -20, 20))))
		n -= orders * axes
	}
	return m
}

func anyMotion(r *rand.Rand, n int) api.Motion {
	m := moving(r, max(0, min(12, n+oneOf(r, 0, 0, 0, 0, 0, 0, 0, 0, 0, 1, -1))))
	if len(m.Parts) > 0 && r.Intn(8) == 0 {
		p := &m.Parts[r.Intn(len(m.Parts))]
		switch r.Intn(4) {
		case 0:
			p.Kind = oneOf(r, -1, 5)
		case 1:
			p.Axes = oneOf(r, 0, 12, 13)
		case 2:
			p.Noise = oneOf(r, -1, 0x1p101, nan, inf)
		case 3:
			p.Fade = oneOf(r, -1, 0x1p101, nan, inf)
		}
	}
	return m
}

func anyTicks(r *rand.Rand) int64 {
	if r.Intn(10) == 0 {
		return oneOf(r, -1, end+1, math.MaxInt64, math.MinInt64)
	}
	return oneOf(r, 0, 1, second, second/10, second*r.Int63n(1000), end, r.Int63n(end)>>r.Intn(50))
}

// fitRow is what a sensor sees of n numbers.
func fitRow(r *rand.Rand, n int) []float64 {
	h := make([]float64, n)
	number := oneOf(r,
		func() float64 { return float64(r.Intn(5) - 2) },
		func() float64 { return r.NormFloat64() },
		func() float64 { return signed(r, between(r, -300, 300)) },
		func() float64 { return anyFinite(r) },
		func() float64 { return oneOf(r, 0, minus) },
	)
	for i := range h {
		h[i] = number()
	}
	return h
}

// lowest is a state and a row along which it knows nearly all: positive taken exactly, but reckoned in order what the row is foreseen to vary by is below 0 by less, if the row's own variance is 0.
func lowest(x ...float64) (s api.State, h []float64, less float64) {
	return state(x, 9, 3, 3, 1+0x1p-52), list(0.9, -2.7), 0x1.cccccccccccccp-52
}

// blindRow is one along which a covariance that is nearly singular knows nearly all.
func blindRow(r *rand.Rand, s api.State) []float64 {
	h := make([]float64, len(s.X))
	if len(h) > 1 && s.P.Rows == len(h) && s.P.Cols == len(h) && len(s.P.At) == len(h)*len(h) {
		i := 1 + r.Intn(len(h)-1)
		by := oneOf(r, 1, 0.1, 1.0/3, 7, 1e5)
		h[0], h[i] = s.P.At[i]*by, -s.P.At[0]*by
	}
	return h
}

func fitVariance(r *rand.Rand) float64 {
	return oneOf(r, 1, float64(1+r.Intn(9)), between(r, -4, 4), between(r, -60, 0), between(r, -1074, 1023), least, most)
}

// anyVariance is one of each sort.
func anyVariance(r *rand.Rand) float64 {
	if r.Intn(12) == 0 {
		return oneOf(r, append(unfit(), 0, minus, -1, -least, -most)...)
	}
	return fitVariance(r)
}

func anyRow(r *rand.Rand, s api.State) []float64 {
	if r.Intn(5) == 0 {
		return blindRow(r, s)
	}
	h := fitRow(r, len(s.X))
	switch r.Intn(16) {
	case 0:
		h = append(h, 1)
	case 1:
		h = h[:max(0, len(h)-1)]
	case 2:
		if len(h) > 0 {
			h[r.Intn(len(h))] = oneOf(r, unfit()...)
		}
	}
	return h
}

func anyValue(r *rand.Rand) float64 {
	if r.Intn(16) == 0 {
		return oneOf(r, unfit()...)
	}
	return oneOf(r, anyFinite(r), r.NormFloat64(), float64(r.Intn(9)))
}

// anyRows are some rows, of most kinds, with their variances and values.
func anyRows(r *rand.Rand, s api.State) (h api.Mat, v, z []float64) {
	n := max(0, min(12, len(s.X)))
	h = mat(oneOf(r, 0, 1, 2, 3, 3, r.Intn(13)), n)
	for range h.Rows {
		h.At = append(h.At, oneOf(r, fitRow(r, n), filled(n, 1), filled(n, 0), filled(n, r.NormFloat64()))...)
		v = append(v, oneOf(r, 1, 2, between(r, -4, 4), anyVariance(r)))
		z = append(z, oneOf(r, 1, 2, between(r, -4, 4), anyValue(r)))
	}
	switch r.Intn(14) {
	case 0:
		spoilMat(r, &h)
	case 1:
		v = append(v, 1)
	case 2:
		z = append(z, 1)
	case 3:
		v = v[:max(0, len(v)-1)]
	case 4:
		z = z[:max(0, len(z)-1)]
	}
	return h, v, z
}
