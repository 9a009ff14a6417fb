package kalman

import (
	"binnacle/anatomy"
	"binnacle/api"
	"binnacle/matrix"
)

// outlook is what a row is foreseen to tell, its variance, and how the row goes along with each mean: the chapter's m, S and v.
type outlook struct {
	mean, variance float64
	along          []float64
}

// foreseen asks whether S is above 0 behind all that isn't finite: only a sum that was reckoned can be held against 0.
func foreseen(s api.State, h []float64, r float64) (outlook, api.Errno) {
	along, err := matrix.MulVec(s.P, h)
	if err != api.OK {
		return outlook{}, err
	}
	mean, err := matrix.Dot(h, s.X)
	if err != api.OK {
		return outlook{}, err
	}
	spread, err := matrix.Dot(h, along)
	if err != api.OK {
		return outlook{}, err
	}
	variance := spread + r
	if !areFinite(variance) {
		return outlook{}, api.ErrOver
	}
	if variance <= 0 {
		return outlook{}, api.ErrInnovation
	}
	return outlook{mean, variance, along}, api.OK
}

// step is a row on its way into a state; both forms of its end are methods of it.
type step struct {
	outlook
	before api.State
	row    []float64
	noise  float64
	innov  float64
	gain   []float64
}

// stepOf looks at the row and what it tells, then reckons all that both forms share.
func stepOf(s api.State, h []float64, r, z float64) (step, api.Errno) {
	if err := checkRow(h, r, len(s.X)); err != api.OK {
		return step{}, err
	}
	if !areFinite(z) {
		return step{}, api.ErrNumber
	}
	seen, err := foreseen(s, h, r)
	if err != api.OK {
		return step{}, err
	}
	t := step{outlook: seen, before: s, row: h, noise: r, innov: z - seen.mean, gain: make([]float64, len(h))}
	for i, v := range seen.along {
		t.gain[i] = v / seen.variance
	}
	return t, api.OK
}

// long is the covariance in Joseph's form.
func (t step) long() (api.Mat, api.Errno) {
	n := len(t.gain)
	taken, err := matrix.Outer(t.gain, t.row)
	if err != api.OK {
		return api.Mat{}, err
	}
	one, err := matrix.Eye(n)
	if err != api.OK {
		return api.Mat{}, err
	}
	left, err := matrix.Sub(one, taken)
	if err != api.OK {
		return api.Mat{}, err
	}
	kept, err := matrix.Sandwich(left, t.before.P)
	if err != api.OK {
		return api.Mat{}, err
	}
	return mirrored(n, func(i, j int) float64 {
		return kept.At[i*n+j] + float64(float64(t.gain[i]*t.noise)*t.gain[j])
	})
}

// short is the covariance less what the row took away.
func (t step) short() (api.Mat, api.Errno) {
	n := len(t.gain)
	return mirrored(n, func(i, j int) float64 {
		return t.before.P.At[i*n+j] - float64(t.gain[i]*t.along[j])
	})
}

// done is the state behind the row, its covariance in one of the forms. An innovation that isn't finite makes no finite score, and a gain that isn't no finite mean: neither need be looked for by itself.
func (t step) done(form func() (api.Mat, api.Errno)) (api.State, api.Step, api.Errno) {
	x := make([]float64, len(t.gain))
	for i, k := range t.gain {
		x[i] = t.before.X[i] + float64(k*t.innov)
	}
	score := float64(t.innov*t.innov) / t.variance
	if !anatomy.Finite(x) || !areFinite(score) {
		return refusedRow(api.ErrOver)
	}
	p, err := form()
	if err != api.OK {
		return refusedRow(err)
	}
	if err := lookExactly(p); err != api.OK {
		return refusedRow(err)
	}
	return api.State{X: x, P: p}, api.Step{Innov: t.innov, Var: t.variance, Score: score, Gain: t.gain}, api.OK
}

// updated is the long form of the update of a state that may be.
func updated(s api.State, h []float64, r, z float64) (api.State, api.Step, api.Errno) {
	t, err := stepOf(s, h, r, z)
	if err != api.OK {
		return refusedRow(err)
	}
	return t.done(t.long)
}

func refusedRow(err api.Errno) (api.State, api.Step, api.Errno) {
	return api.State{}, api.Step{}, err
}
