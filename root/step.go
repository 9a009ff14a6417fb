package root

import (
	"math"

	"binnacle/anatomy"
	"binnacle/api"
	"binnacle/matrix"
)

// outlook is what a row is foreseen to tell, how it goes along with each column of the triangle, and its variance with the columns from each one on: the chapter's m, v and a.
type outlook struct {
	mean  float64
	along []float64
	sums  []float64
}

func foreseen(s api.Root, h []float64, r float64) (outlook, api.Errno) {
	columns, err := matrix.Transpose(s.L)
	if err != api.OK {
		return outlook{}, err
	}
	along, err := matrix.MulVec(columns, h)
	if err != api.OK {
		return outlook{}, err
	}
	mean, err := matrix.Dot(h, s.X)
	if err != api.OK {
		return outlook{}, err
	}
	n := len(h)
	sums := make([]float64, n+1)
	sums[n] = r
	for done := range n {
		j := n - 1 - done
		sums[j] = sums[j+1] + float64(along[j]*along[j])
	}
	// Looking at the last sum is enough: nothing is taken away from them.
	if !areFinite(sums[0]) {
		return outlook{}, api.ErrOver
	}
	return outlook{mean, along, sums}, api.OK
}

// carlson takes a row into a triangle, and tells with it how the row goes along with each mean: the chapter's L' and w. Nothing is looked at here.
func (o outlook) carlson(l api.Mat) (api.Mat, []float64) {
	n := len(o.along)
	out := api.Mat{Rows: n, Cols: n, At: make([]float64, n*n)}
	w := make([]float64, n)
	for done := range n {
		j := n - 1 - done
		v, p, q := o.along[j], math.Sqrt(o.sums[j]), math.Sqrt(o.sums[j+1])
		c, t := q/p, v/float64(p*q)
		for i := j; i < n; i++ {
			x := l.At[i*n+j]
			out.At[i*n+j] = float64(c*x) - float64(t*w[i])
			w[i] += float64(v * x)
		}
	}
	return out, w
}

// updated is the root of a root that may be with one row more. What isn't finite in a w makes no finite gain, a gain that isn't no finite mean, and an innovation that isn't no finite score: none of them need be looked for by itself.
func updated(s api.Root, h []float64, r, z float64) (api.Root, api.Step, api.Errno) {
	if err := checkRow(h, r, len(s.X)); err != api.OK {
		return refusedRow(err)
	}
	if !areFinite(z) {
		return refusedRow(api.ErrNumber)
	}
	seen, err := foreseen(s, h, r)
	if err != api.OK {
		return refusedRow(err)
	}
	l, w := seen.carlson(s.L)
	innov, variance := z-seen.mean, seen.sums[0]
	score := float64(innov*innov) / variance
	gain, x := make([]float64, len(w)), make([]float64, len(w))
	for i := range len(w) {
		gain[i] = w[i] / variance
		x[i] = s.X[i] + float64(gain[i]*innov)
	}
	if !anatomy.Finite(l.At) || !anatomy.Finite(x) || !areFinite(score) {
		return refusedRow(api.ErrOver)
	}
	// Behind what went over: only a number that was reckoned can be held against 0.
	if err := checkDiagonal(l); err != api.OK {
		return refusedRow(err)
	}
	return api.Root{X: x, L: l}, api.Step{Innov: innov, Var: variance, Score: score, Gain: gain}, api.OK
}

func refusedRow(err api.Errno) (api.Root, api.Step, api.Errno) {
	return api.Root{}, api.Step{}, err
}
