package kalman

import (
	"slices"

	"binnacle/anatomy"
	"binnacle/api"
	"binnacle/matrix"
	"binnacle/rational"
)

func refused(err api.Errno) (api.State, api.Errno) { return api.State{}, err }

func areFinite(x ...float64) bool { return anatomy.Finite(x) }

// checkSquare is why a matrix may not stand beside so many means.
func checkSquare(m api.Mat, rows int) api.Errno {
	if err := matrix.Check(m); err != api.OK {
		return err
	}
	if m.Rows != m.Cols || m.Rows != rows {
		return api.ErrShape
	}
	return api.OK
}

// checkRow is why a row of such a variance may not be.
func checkRow(h []float64, r float64, dim int) api.Errno {
	if len(h) != dim {
		return api.ErrShape
	}
	if !anatomy.Finite(h) || !areFinite(r) {
		return api.ErrNumber
	}
	if r <= 0 {
		return api.ErrVariance
	}
	return api.OK
}

func checkRows(h api.Mat, r, z []float64, dim int) api.Errno {
	if err := matrix.Check(h); err != api.OK {
		return err
	}
	if h.Cols != dim || len(r) != h.Rows || len(z) != h.Rows {
		return api.ErrShape
	}
	return api.OK
}

// lookExactly is the look by which every covariance goes ahead of being told.
func lookExactly(p api.Mat) api.Errno {
	if sign, err := rational.SignMat(p); err != api.OK || sign != api.SignPositive {
		return api.ErrCovPos
	}
	return api.OK
}

// predicted is the state behind a transition that may be. The sum of two symmetric matrices is symmetric as it stands.
func predicted(s api.State, f, q api.Mat) (api.State, api.Errno) {
	x, err := matrix.MulVec(f, s.X)
	if err != api.OK {
		return refused(err)
	}
	p, err := matrix.Sandwich(f, s.P)
	if err != api.OK {
		return refused(err)
	}
	if p, err = matrix.Add(p, q); err != api.OK {
		return refused(err)
	}
	if err := lookExactly(p); err != api.OK {
		return refused(err)
	}
	return api.State{X: x, P: p}, api.OK
}

func copied(s api.State) api.State {
	return api.State{X: slices.Clone(s.X), P: api.Mat{Rows: s.P.Rows, Cols: s.P.Cols, At: slices.Clone(s.P.At)}}
}

// rowOf is a piece of m, not new memory.
func rowOf(m api.Mat, i int) []float64 { return m.At[i*m.Cols : (i+1)*m.Cols] }

// mirrored asks for the numbers from the diagonal down alone, and refuses what isn't finite.
func mirrored(n int, number func(i, j int) float64) (api.Mat, api.Errno) {
	m := api.Mat{Rows: n, Cols: n, At: make([]float64, n*n)}
	for i := range n {
		for j := range i + 1 {
			x := number(i, j)
			m.At[i*n+j], m.At[j*n+i] = x, x
		}
	}
	if !anatomy.Finite(m.At) {
		return api.Mat{}, api.ErrOver
	}
	return m, api.OK
}
