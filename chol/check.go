package chol

import (
	"math"

	"binnacle/anatomy"
	"binnacle/api"
	"binnacle/matrix"
)

func isFinite(x float64) bool { return !math.IsNaN(x) && !math.IsInf(x, 0) }

func at(m api.Mat, i, j int) float64 { return m.At[i*m.Cols+j] }

// beginning is a piece of row i, not new memory.
func beginning(m api.Mat, i, count int) []float64 { return m.At[i*m.Cols : i*m.Cols+count] }

func squareOf(x []float64, n int) api.Mat { return api.Mat{Rows: n, Cols: n, At: x} }

func checkSquare(m api.Mat) api.Errno {
	if err := matrix.Check(m); err != api.OK {
		return err
	}
	if m.Rows != m.Cols {
		return api.ErrShape
	}
	return api.OK
}

func checkSymmetric(m api.Mat) api.Errno {
	if err := checkSquare(m); err != api.OK {
		return err
	}
	if !matrix.Symmetric(m) {
		return api.ErrSymmetric
	}
	return api.OK
}

// checkTriangle tells whether m is a root triangle.
func checkTriangle(m api.Mat) api.Errno {
	if err := checkSquare(m); err != api.OK {
		return err
	}
	if !matrix.Lower(m) {
		return api.ErrTriangle
	}
	for i := range m.Rows {
		if at(m, i, i) <= 0 {
			return api.ErrTriangle
		}
	}
	return api.OK
}

// checkList tells what is wrong with a list that goes with so many rows.
func checkList(b []float64, rows int) api.Errno {
	if len(b) != rows {
		return api.ErrShape
	}
	if !anatomy.Finite(b) {
		return api.ErrNumber
	}
	return api.OK
}

// checkSides tells what is wrong with the two sides of an equation of a root triangle.
func checkSides(l api.Mat, b []float64) api.Errno {
	if err := checkTriangle(l); err != api.OK {
		return err
	}
	return checkList(b, l.Rows)
}
