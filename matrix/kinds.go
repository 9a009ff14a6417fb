package matrix

import (
	"math"

	"binnacle/anatomy"
	"binnacle/api"
)

// Symmetric tells whether m is good and its own transpose, bits alike.
func Symmetric(m api.Mat) bool {
	return Check(m) == api.OK && Equal(m, turned(m))
}

// Lower tells whether m is good, square, and +0 above the diagonal.
func Lower(m api.Mat) bool {
	if checkSquare(m) != api.OK {
		return false
	}
	for i := range m.Rows {
		for j := range m.Rows {
			if i < j && !anatomy.Same(at(m, i, j), 0) {
				return false
			}
		}
	}
	return true
}

// Mirror takes the numbers from the diagonal down for those above it.
func Mirror(m api.Mat) (api.Mat, api.Errno) {
	if err := checkSquare(m); err != api.OK {
		return refused(err)
	}
	return mirrored(m.Rows, func(i, j int) float64 { return at(m, i, j) }), api.OK
}

// Mean is the symmetric matrix between m and its transpose.
func Mean(m api.Mat) (api.Mat, api.Errno) {
	if err := checkSquare(m); err != api.OK {
		return refused(err)
	}
	return answered(mirrored(m.Rows, func(i, j int) float64 {
		// A number of the diagonal is taken as it is: twice it may be beyond what numbers hold.
		if i == j {
			return at(m, i, i)
		}
		return (at(m, i, j) + at(m, j, i)) / 2
	}))
}

// Trace is the sum in order of the diagonal.
func Trace(m api.Mat) (float64, api.Errno) {
	if err := checkSquare(m); err != api.OK {
		return 0, err
	}
	sum := 0.0
	for i := range m.Rows {
		sum += at(m, i, i)
	}
	return answeredNumber(sum)
}

// Norms is the greatest sum of amounts of a column, that of a row, and the greatest amount.
func Norms(m api.Mat) (one, most, greatest float64, e api.Errno) {
	if err := Check(m); err != api.OK {
		return 0, 0, 0, err
	}
	amounts := fill(m.Rows, m.Cols, func(i, j int) float64 { return math.Abs(at(m, i, j)) })
	one, most = widest(turned(amounts)), widest(amounts)
	if !isFinite(one) || !isFinite(most) {
		return 0, 0, 0, api.ErrOver
	}
	for _, x := range amounts.At {
		greatest = max(greatest, x)
	}
	return one, most, greatest, api.OK
}

// Equal tells whether two are bits alike, be they good or not.
func Equal(a, b api.Mat) bool {
	if a.Rows != b.Rows || a.Cols != b.Cols || len(a.At) != len(b.At) {
		return false
	}
	for k := range len(a.At) {
		if !anatomy.Same(a.At[k], b.At[k]) {
			return false
		}
	}
	return true
}
