package matrix

import (
	"math"

	"binnacle/anatomy"
	"binnacle/api"
)

func isSide(n int) bool { return 0 <= n && n <= api.MaxDim }

func isFinite(x float64) bool { return !math.IsNaN(x) && !math.IsInf(x, 0) }

// isOrder tells whether p, which is no longer than MaxDim, has each number below its length once.
func isOrder(p []int) bool {
	var seen [api.MaxDim]bool
	for _, k := range p {
		if k < 0 || k >= len(p) || seen[k] {
			return false
		}
		seen[k] = true
	}
	return true
}

func checkList(x []float64) api.Errno {
	if !isSide(len(x)) {
		return api.ErrRange
	}
	if !anatomy.Finite(x) {
		return api.ErrNumber
	}
	return api.OK
}

func checkLists(x, y []float64) api.Errno {
	if err := checkList(x); err != api.OK {
		return err
	}
	return checkList(y)
}

func checkBoth(a, b api.Mat) api.Errno {
	if err := Check(a); err != api.OK {
		return err
	}
	return Check(b)
}

func checkAlike(a, b api.Mat) api.Errno {
	if err := checkBoth(a, b); err != api.OK {
		return err
	}
	if a.Rows != b.Rows || a.Cols != b.Cols {
		return api.ErrShape
	}
	return api.OK
}

func checkSquare(m api.Mat) api.Errno {
	if err := Check(m); err != api.OK {
		return err
	}
	if m.Rows != m.Cols {
		return api.ErrShape
	}
	return api.OK
}

func checkPlace(m api.Mat, i, j int) api.Errno { return checkSpan(m, i, j, 1, 1) }

// checkSpan tells whether so many rows and columns from (i, j) on are m's. The counts are taken away from the sides, since added up they may be beyond what an int holds.
func checkSpan(m api.Mat, i, j, rows, cols int) api.Errno {
	if err := Check(m); err != api.OK {
		return err
	}
	if i < 0 || j < 0 || rows < 0 || cols < 0 || i > m.Rows-rows || j > m.Cols-cols {
		return api.ErrRange
	}
	return api.OK
}

func refused(err api.Errno) (api.Mat, api.Errno) { return api.Mat{}, err }

// answered hands a matrix out, if it may be. Looking at the end is enough: a sum with an infinity or a NaN in it is never finite again.
func answered(m api.Mat) (api.Mat, api.Errno) {
	if !anatomy.Finite(m.At) {
		return refused(api.ErrOver)
	}
	return m, api.OK
}

func answeredNumber(x float64) (float64, api.Errno) {
	if !isFinite(x) {
		return 0, api.ErrOver
	}
	return x, api.OK
}

func zeros(rows, cols int) api.Mat {
	return api.Mat{Rows: rows, Cols: cols, At: make([]float64, rows*cols)}
}

func at(m api.Mat, i, j int) float64 { return m.At[i*m.Cols+j] }

// row is a piece of m, not new memory.
func row(m api.Mat, i int) []float64 { return m.At[i*m.Cols : (i+1)*m.Cols] }

// fill is a new matrix of the numbers that are told place by place.
func fill(rows, cols int, number func(i, j int) float64) api.Mat {
	m := zeros(rows, cols)
	for i := range rows {
		for j := range cols {
			m.At[i*cols+j] = number(i, j)
		}
	}
	return m
}

// mirrored asks for the numbers from the diagonal down alone.
func mirrored(n int, number func(i, j int) float64) api.Mat {
	m := zeros(n, n)
	for i := range n {
		for j := range i + 1 {
			x := number(i, j)
			m.At[i*n+j], m.At[j*n+i] = x, x
		}
	}
	return m
}

func part(m api.Mat, i, j, rows, cols int) api.Mat {
	return fill(rows, cols, func(k, l int) float64 { return at(m, i+k, j+l) })
}

func turned(m api.Mat) api.Mat {
	return fill(m.Cols, m.Rows, func(i, j int) float64 { return at(m, j, i) })
}

// dot adds the products in their order, each rounded by itself.
func dot(x, y []float64) float64 {
	sum := 0.0
	for k := range len(x) {
		sum += float64(x[k] * y[k])
	}
	return sum
}

// byRows is the product of a and the transpose of b.
func byRows(a, b api.Mat) api.Mat {
	return fill(a.Rows, b.Rows, func(i, j int) float64 { return dot(row(a, i), row(b, j)) })
}

// widest is the greatest sum of a row.
func widest(m api.Mat) float64 {
	greatest := 0.0
	for i := range m.Rows {
		sum := 0.0
		for _, x := range row(m, i) {
			sum += x
		}
		greatest = max(greatest, sum)
	}
	return greatest
}
