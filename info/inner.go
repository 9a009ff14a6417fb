package info

import (
	"slices"

	"binnacle/anatomy"
	"binnacle/api"
	"binnacle/matrix"
	"binnacle/rational"
)

func refused(err api.Errno) (api.Info, api.Errno) { return api.Info{}, err }

func areFinite(x ...float64) bool { return anatomy.Finite(x) }

// checkSquare is why a matrix may not stand beside a list.
func checkSquare(m api.Mat, list []float64) api.Errno {
	if err := matrix.Check(m); err != api.OK {
		return err
	}
	if m.Rows != m.Cols || m.Rows != len(list) {
		return api.ErrShape
	}
	if !anatomy.Finite(list) {
		return api.ErrNumber
	}
	return api.OK
}

// checkRow is why a row of such a variance and value may not be.
func checkRow(h []float64, r, z float64, dim int) api.Errno {
	if len(h) != dim {
		return api.ErrShape
	}
	if !anatomy.Finite(h) || !areFinite(r) {
		return api.ErrNumber
	}
	if r <= 0 {
		return api.ErrVariance
	}
	if !areFinite(z) {
		return api.ErrNumber
	}
	return api.OK
}

func checkRows(h api.Mat, r, z []float64, dim int) api.Errno {
	if err := matrix.Check(h); err != api.OK {
		return err
	}
	if h.Cols != dim || len(r) != h.Rows || len(z) != h.Rows {
		return api.ErrShape
	}
	return api.OK
}

// isPositive tells whether a symmetric matrix is, taken exactly.
func isPositive(m api.Mat) bool {
	sign, err := rational.SignMat(m)
	return err == api.OK && sign == api.SignPositive
}

// looked is the look by which every information that was added up goes ahead of being told. Whether it is finite is asked of its sums alone: a step that went over stays so in them.
func looked(a api.Info) (api.Info, api.Errno) {
	if !anatomy.Finite(a.Y.At) || !anatomy.Finite(a.V) {
		return refused(api.ErrOver)
	}
	if !isPositive(a.Y) {
		return refused(api.ErrInfo)
	}
	return a, api.OK
}

// updated is an information that may be with one row more.
func updated(a api.Info, h []float64, r, z float64) (api.Info, api.Errno) {
	n := len(a.V)
	if err := checkRow(h, r, z, n); err != api.OK {
		return refused(err)
	}
	out := api.Info{Y: squareOf(make([]float64, n*n), n), V: make([]float64, n)}
	for i := range n {
		for j := range i + 1 {
			x := a.Y.At[i*n+j] + float64(h[i]*h[j])/r
			out.Y.At[i*n+j], out.Y.At[j*n+i] = x, x
		}
		out.V[i] = a.V[i] + float64(h[i]*z)/r
	}
	return looked(out)
}

// added is a sum, number by number.
func added(x, y []float64) []float64 {
	out := make([]float64, len(x))
	for i := range len(x) {
		out[i] = x[i] + y[i]
	}
	return out
}

func copied(a api.Info) api.Info {
	return api.Info{Y: squareOf(slices.Clone(a.Y.At), a.Y.Rows), V: slices.Clone(a.V)}
}

func squareOf(x []float64, n int) api.Mat { return api.Mat{Rows: n, Cols: n, At: x} }

// transposed is a good matrix with rows and columns exchanged.
func transposed(m api.Mat) api.Mat {
	out, _ := matrix.Transpose(m)
	return out
}

// rowOf is a piece of m, not new memory.
func rowOf(m api.Mat, i int) []float64 { return m.At[i*m.Cols : (i+1)*m.Cols] }
