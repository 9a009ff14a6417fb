package truth_test

import (
	"math"
	"math/big"
	"math/rand"

	"binnacle/api"
	"binnacle/kalman"
)

// fitNumbers is a state of numbers that may be.
func fitNumbers(r *rand.Rand, n int) api.State {
	for {
		s := api.State{P: mat(n, n, make([]float64, n*n)...)}
		c := make([]float64, n*n)
		for i := range c {
			c[i] = oneOf(r, r.NormFloat64(), float64(r.Intn(5)-2))
		}
		by := make([]float64, n)
		for i := range n {
			by[i] = math.Ldexp(1, oneOf(r, 0, 0, r.Intn(40)-20))
			s.X = append(s.X, oneOf(r, r.NormFloat64(), float64(r.Intn(9)-4), minus, anyFinite(r)))
		}
		for i := range n {
			for j := range i + 1 {
				x := 0.0
				for k := range n {
					x += float64(c[i*n+k] * c[j*n+k])
				}
				if i == j {
					x += 0x1p-3
				}
				x *= by[i] * by[j]
				s.P.At[i*n+j], s.P.At[j*n+i] = x, x
			}
		}
		if kalman.Check(s) == api.OK {
			return s
		}
	}
}

// updatedNumbers is kalman's state.
func updatedNumbers(s api.State, h []float64, r, z float64) api.State {
	out, _, _ := kalman.Update(s, h, r, z)
	return out
}

// widened is an interval around a number, as wide as asked.
func widened(r *rand.Rand, x float64, wide float64) api.Interval {
	out := point(plain(x))
	switch r.Intn(4) {
	case 0:
	case 1:
		out.Lo -= float64(wide * math.Abs(x))
		out.Hi += float64(wide * math.Abs(x))
	case 2:
		out.Hi += float64(wide * r.Float64())
	case 3:
		out.Lo = math.Nextafter(x, -inf)
	}
	if !isInterval(out) {
		return point(plain(x))
	}
	return out
}

// aroundAll is a box around numbers: mirrored.
func aroundAll(r *rand.Rand, x, p []float64) api.Box {
	n := len(x)
	wide := oneOf(r, 0, 0x1p-52, 0x1p-20, 0x1p-6, 0.5, 100)
	out := api.Box{P: make([]api.Interval, n*n)}
	for i := range n {
		out.X = append(out.X, widened(r, x[i], wide))
		if r.Intn(60) == 0 {
			out.X[i].Hi = inf
		}
		for j := range i + 1 {
			a := widened(r, p[i*n+j], wide)
			if r.Intn(60) == 0 {
				a.Lo = -inf
			}
			out.P[i*n+j], out.P[j*n+i] = a, a
		}
	}
	return out
}

func around(r *rand.Rand, s api.State) api.Box { return aroundAll(r, s.X, s.P.At) }

// aroundFracs is a box around what is next to fractions.
func aroundFracs(r *rand.Rand, s api.FracState) api.Box {
	near := func(l []api.Frac) (out []float64) {
		for _, f := range l {
			x, _ := ratOf(f).Float64()
			out = append(out, x)
		}
		return out
	}
	out := aroundAll(r, near(s.X), near(s.P.At))
	if r.Intn(3) == 0 {
		return out
	}
	// So wide that each fraction is held just so.
	n := len(s.X)
	for i := range n {
		out.X[i] = hull(out.X[i], ratOf(s.X[i]))
		for j := range i + 1 {
			a := hull(out.P[i*n+j], ratOf(s.P.At[i*n+j]))
			out.P[i*n+j], out.P[j*n+i] = a, a
		}
	}
	return out
}

// hull is an interval made so wide that it has a fraction.
func hull(a api.Interval, x *big.Rat) api.Interval {
	for !lies(between(a.Lo, inf), x) {
		a.Lo = math.Nextafter(a.Lo, -inf)
	}
	for !lies(between(-inf, a.Hi), x) {
		a.Hi = math.Nextafter(a.Hi, inf)
	}
	return a
}

// spoilBox makes something of a box wrong.
func spoilBox(r *rand.Rand, b *api.Box) {
	n := len(b.X)
	switch r.Intn(7) {
	case 0:
		b.X = append(b.X, point(1))
	case 1:
		b.X = b.X[:max(0, n-1)]
	case 2:
		b.P = append(b.P, point(1))
	case 3:
		if n > 0 {
			b.X[r.Intn(n)] = oneOf(r, noIntervals()...)
		}
	case 4:
		if n > 0 {
			i, j := r.Intn(n), r.Intn(n)
			b.P[i*n+j] = oneOf(r, noIntervals()...)
			b.P[j*n+i] = b.P[i*n+j]
		}
	case 5:
		if n > 1 {
			i := 1 + r.Intn(n-1)
			a := &b.P[i*n+r.Intn(i)]
			*a = oneOf(r, between(a.Lo, math.Nextafter(a.Hi, inf)), between(math.Nextafter(a.Lo, -inf), a.Hi))
		}
	case 6:
		n := oneOf(r, 12, 13, 14)
		*b = box(repeated(n, point(1)), repeated(n*n, point(1))...)
	}
}

// spoilMatrix makes something of a matrix of numbers wrong.
func spoilMatrix(r *rand.Rand, m *api.Mat) {
	switch r.Intn(5) {
	case 0:
		m.Rows = oneOf(r, -1, 13, math.MaxInt, m.Rows+1)
	case 1:
		m.Cols = oneOf(r, -1, 13, math.MinInt, m.Cols+1)
	case 2:
		m.At = append(m.At, 1)
	case 3:
		if len(m.At) > 0 {
			m.At[r.Intn(len(m.At))] = oneOf(r, unfit()...)
		}
	case 4:
		if len(m.At) > 1 {
			i := 1 + r.Intn(len(m.At)-1)
			m.At[i] = oneOf(r, anyFinite(r), -m.At[i], math.Float64frombits(math.Float64bits(m.At[i])^1))
		}
	}
}

// spoilNumbers makes something of a state of numbers wrong.
func spoilNumbers(r *rand.Rand, s *api.State) {
	switch r.Intn(5) {
	case 4:
		if len(s.P.At) > 0 {
			s.P.At[0] = oneOf(r, 0, minus, -s.P.At[0])
		}
	case 0, 1:
		spoilMatrix(r, &s.P)
	case 2:
		s.X = append(s.X, 1)
	case 3:
		if len(s.X) > 0 {
			s.X[r.Intn(len(s.X))] = oneOf(r, unfit()...)
		}
	}
}

// spoilPoints makes something wrong of what moves a box, and of a row.
func spoilPoints(r *rand.Rand, q *question) {
	switch r.Intn(8) {
	case 0:
		spoilMatrix(r, &q.nf)
	case 1, 7:
		spoilMatrix(r, &q.nq)
	case 2:
		q.nh = append(q.nh, 1)
	case 3:
		if len(q.nh) > 0 {
			q.nh[r.Intn(len(q.nh))] = oneOf(r, unfit()...)
		}
	case 4, 5:
		q.nr = oneOf(r, append(unfit(), 0, minus, -1, -least)...)
	case 6:
		q.nz = oneOf(r, unfit()...)
	}
}

// numberMove is a transition of n numbers and its noise.
func numberMove(r *rand.Rand, n int) (f, q api.Mat) {
	f = mat(n, n)
	number := oneOf(r,
		func() float64 { return float64(r.Intn(5) - 2) },
		func() float64 { return r.NormFloat64() },
		func() float64 { return 0 },
		func() float64 { return anyFinite(r) },
	)
	for range n * n {
		f.At = append(f.At, number())
	}
	q = fitNumbers(r, n).P
	if r.Intn(4) == 0 {
		q.At = make([]float64, n*n)
	}
	return f, q
}

// numberRow is what a sensor sees of n numbers.
func numberRow(r *rand.Rand, n int) (h []float64) {
	number := oneOf(r,
		func() float64 { return float64(r.Intn(5) - 2) },
		func() float64 { return r.NormFloat64() },
		func() float64 { return oneOf(r, 0, minus) },
		func() float64 { return anyFinite(r) },
	)
	for range n {
		h = append(h, number())
	}
	return h
}

func numberVariance(r *rand.Rand) float64 {
	return oneOf(r, 1, float64(1+r.Intn(9)), sized(r, -4, 4), sized(r, -60, 0), math.Abs(anyFinite(r))+least)
}
