package root

import (
	"slices"

	"binnacle/anatomy"
	"binnacle/api"
	"binnacle/matrix"
	"binnacle/qr"
)

func refused(err api.Errno) (api.Root, api.Errno) { return api.Root{}, err }

func areFinite(x ...float64) bool { return anatomy.Finite(x) }

// checkTall is why a matrix may not have a row for each of so many means.
func checkTall(m api.Mat, rows int) api.Errno {
	if err := matrix.Check(m); err != api.OK {
		return err
	}
	if m.Rows != rows {
		return api.ErrShape
	}
	return api.OK
}

// checkSquare is why it may not have as many columns too.
func checkSquare(m api.Mat, rows int) api.Errno {
	if err := checkTall(m, rows); err != api.OK {
		return err
	}
	if m.Cols != rows {
		return api.ErrShape
	}
	return api.OK
}

// checkDiagonal is why a lower triangle may not be a root's.
func checkDiagonal(l api.Mat) api.Errno {
	for i := range l.Rows {
		if rowOf(l, i)[i] <= 0 {
			return api.ErrTriangle
		}
	}
	return api.OK
}

// checkList is why a list may not go with so many means.
func checkList(x []float64, dim int) api.Errno {
	if len(x) != dim {
		return api.ErrShape
	}
	if !anatomy.Finite(x) {
		return api.ErrNumber
	}
	return api.OK
}

// checkRow is why a row of such a variance may not be.
func checkRow(h []float64, r float64, dim int) api.Errno {
	if err := checkList(h, dim); err != api.OK {
		return err
	}
	if !areFinite(r) {
		return api.ErrNumber
	}
	if r <= 0 {
		return api.ErrVariance
	}
	return api.OK
}

func checkRows(h api.Mat, r, z []float64, dim int) api.Errno {
	if err := matrix.Check(h); err != api.OK {
		return err
	}
	if h.Cols != dim || len(r) != h.Rows || len(z) != h.Rows {
		return api.ErrShape
	}
	return api.OK
}

// predicted is the root behind a transition that may be.
func predicted(s api.Root, f, g api.Mat) (api.Root, api.Errno) {
	x, err := matrix.MulVec(f, s.X)
	if err != api.OK {
		return refused(err)
	}
	moved, err := matrix.Mul(f, s.L)
	if err != api.OK {
		return refused(err)
	}
	l, err := qr.Triangle([]api.Mat{moved, g})
	if err != api.OK {
		return refused(err)
	}
	if err := checkDiagonal(l); err != api.OK {
		return refused(err)
	}
	return api.Root{X: x, L: l}, api.OK
}

func copied(s api.Root) api.Root {
	return api.Root{X: slices.Clone(s.X), L: api.Mat{Rows: s.L.Rows, Cols: s.L.Cols, At: slices.Clone(s.L.At)}}
}

// rowOf is a piece of m, not new memory.
func rowOf(m api.Mat, i int) []float64 { return m.At[i*m.Cols : (i+1)*m.Cols] }
