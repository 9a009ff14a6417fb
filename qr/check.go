package qr

import (
	"math"

	"binnacle/anatomy"
	"binnacle/api"
	"binnacle/matrix"
)

func isFinite(x float64) bool { return !math.IsNaN(x) && !math.IsInf(x, 0) }

func checkList(x []float64) api.Errno {
	if len(x) > api.MaxWide {
		return api.ErrRange
	}
	if !anatomy.Finite(x) {
		return api.ErrNumber
	}
	return api.OK
}

// checkTurn tells what is wrong with what Rotate takes.
func checkTurn(m api.Mat, i, k int, c, s float64) api.Errno {
	if err := matrix.Check(m); err != api.OK {
		return err
	}
	switch {
	case i < 0 || i >= m.Rows || k < 0 || k >= m.Rows:
		return api.ErrRange
	case i == k:
		return api.ErrShape
	case !isFinite(c) || !isFinite(s):
		return api.ErrNumber
	}
	return api.OK
}

// checkBeside tells whether matrices may be set beside one another. All must be good ahead of what doesn't go together.
func checkBeside(l []api.Mat) api.Errno {
	if len(l) == 0 {
		return api.ErrRange
	}
	for i := range len(l) {
		if err := matrix.Check(l[i]); err != api.OK {
			return err
		}
	}
	for i := range len(l) {
		if l[i].Rows != l[0].Rows {
			return api.ErrShape
		}
	}
	if width(l) > api.MaxWide {
		return api.ErrLong
	}
	return api.OK
}

// checkTall tells whether a matrix has a QR.
func checkTall(m api.Mat) api.Errno {
	if err := matrix.Check(m); err != api.OK {
		return err
	}
	if m.Rows < m.Cols {
		return api.ErrShape
	}
	return api.OK
}

// checkSides tells what is wrong with the two sides of an equation; what each has wrong by itself comes ahead of what doesn't go together.
func checkSides(m api.Mat, b []float64) api.Errno {
	if err := matrix.Check(m); err != api.OK {
		return err
	}
	if err := checkList(b); err != api.OK {
		return err
	}
	if m.Rows < m.Cols || len(b) != m.Rows {
		return api.ErrShape
	}
	return api.OK
}
