package truth

import (
	"slices"

	"binnacle/anatomy"
	"binnacle/api"
	"binnacle/big"
	"binnacle/exact"
	"binnacle/interval"
	"binnacle/matrix"
)

// areIntervals tells whether each of a list is an interval that holds something.
func areIntervals(l []api.Interval) bool {
	return !slices.ContainsFunc(l, func(a api.Interval) bool { return !interval.Is(a) || a == interval.Empty() })
}

// areMirrored tells whether those across the diagonal are alike. == takes +0 and -0 for one.
func areMirrored(p []api.Interval, n int) bool {
	for i := range n {
		for j := range i {
			if p[i*n+j] != p[j*n+i] {
				return false
			}
		}
	}
	return true
}

// checkMove is why a transition with its noise may not move a box.
func checkMove(f, q api.Mat, dim int) api.Errno {
	if err := checkSquare(f, dim); err != api.OK {
		return err
	}
	if err := checkSquare(q, dim); err != api.OK {
		return err
	}
	if !matrix.Symmetric(q) {
		return api.ErrCovSym
	}
	return api.OK
}

func checkSquare(m api.Mat, dim int) api.Errno {
	if err := matrix.Check(m); err != api.OK {
		return err
	}
	if m.Rows != m.Cols || m.Rows != dim {
		return api.ErrShape
	}
	return api.OK
}

// checkRow is why a row of such a variance and value may not be.
func checkRow(h []float64, r, z float64, dim int) api.Errno {
	if len(h) != dim {
		return api.ErrShape
	}
	if !anatomy.Finite(h) || !anatomy.Finite([]float64{r}) {
		return api.ErrNumber
	}
	if r <= 0 {
		return api.ErrVariance
	}
	if !anatomy.Finite([]float64{z}) {
		return api.ErrNumber
	}
	return api.OK
}

// point is the interval of a finite number alone.
func point(x float64) api.Interval {
	out, _ := interval.Point(x)
	return out
}

func points(x []float64) []api.Interval {
	out := make([]api.Interval, len(x))
	for i := range len(x) {
		out[i] = point(x[i])
	}
	return out
}

// dot is that of lists which are as long as one another.
func dot(a, b []api.Interval) api.Interval {
	out, _ := interval.Dot(a, b)
	return out
}

// rowOf is a piece of a square, not new memory. Of a symmetric one it is the column, too: noughts of unlike signs count as one in intervals.
func rowOf(m []api.Interval, n, i int) []api.Interval { return m[i*n : (i+1)*n] }

// squareOf is a square of which each interval is told.
func squareOf(n int, tell func(i, j int) api.Interval) []api.Interval {
	out := make([]api.Interval, n*n)
	for i := range n {
		for j := range n {
			out[i*n+j] = tell(i, j)
		}
	}
	return out
}

// mirroredOf is a square of which the intervals from the diagonal down are told.
func mirroredOf(n int, tell func(i, j int) api.Interval) []api.Interval {
	out := make([]api.Interval, n*n)
	for i := range n {
		for j := range i + 1 {
			a := tell(i, j)
			out[i*n+j], out[j*n+i] = a, a
		}
	}
	return out
}

// predictedBox goes by the formulas of the filter in numbers, as it stands beside a transition and its noise in points.
func predictedBox(b api.Box, f, q []api.Interval) api.Box {
	n := len(b.X)
	x := make([]api.Interval, n)
	for i := range n {
		x[i] = dot(rowOf(f, n, i), b.X)
	}
	m := squareOf(n, func(i, j int) api.Interval { return dot(rowOf(f, n, i), rowOf(b.P, n, j)) })
	p := mirroredOf(n, func(i, j int) api.Interval {
		return interval.Add(dot(rowOf(m, n, i), rowOf(f, n, j)), q[i*n+j])
	})
	return api.Box{X: x, P: p}
}

// updatedBox goes by the formulas of the filter in numbers, in Joseph's form.
func updatedBox(b api.Box, h []api.Interval, r, z api.Interval) (api.Box, api.Errno) {
	n := len(b.X)
	v := make([]api.Interval, n)
	for i := range n {
		v[i] = dot(rowOf(b.P, n, i), h)
	}
	innov := interval.Sub(z, dot(h, b.X))
	variance := interval.Add(dot(h, v), r)
	if variance.Lo <= 0 {
		return api.Box{}, api.ErrWide
	}
	gain, x := make([]api.Interval, n), make([]api.Interval, n)
	for i := range n {
		gain[i] = interval.Div(v[i], variance)
		x[i] = interval.Add(b.X[i], interval.Mul(gain[i], innov))
	}
	return api.Box{X: x, P: longOf(b.P, gain, h, r)}, api.OK
}

// longOf is the covariance behind a row, in Joseph's form.
func longOf(p, gain, h []api.Interval, r api.Interval) []api.Interval {
	n := len(gain)
	left := squareOf(n, func(i, j int) api.Interval {
		one := point(0)
		if i == j {
			one = point(1)
		}
		return interval.Sub(one, interval.Mul(gain[i], h[j]))
	})
	kept := squareOf(n, func(i, j int) api.Interval { return dot(rowOf(left, n, i), rowOf(p, n, j)) })
	return mirroredOf(n, func(i, j int) api.Interval {
		noise := interval.Mul(interval.Mul(gain[i], r), gain[j])
		return interval.Add(dot(rowOf(kept, n, i), rowOf(left, n, j)), noise)
	})
}

// haveEach tells whether each interval has what stands at its place.
func haveEach[T any](l []api.Interval, x []T, has func(api.Interval, T) bool) bool {
	for i := range len(l) {
		if !has(l[i], x[i]) {
			return false
		}
	}
	return true
}

// has tells whether an interval has a fraction. An infinite end bounds nothing.
func has(a api.Interval, f big.Rat) bool {
	if lo, bounded := exact.Of(a.Lo); bounded && f.Compare(lo) < 0 {
		return false
	}
	hi, bounded := exact.Of(a.Hi)
	return !bounded || f.Compare(hi) <= 0
}
