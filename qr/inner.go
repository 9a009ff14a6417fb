package qr

import (
	"math"

	"binnacle/anatomy"
	"binnacle/api"
	"binnacle/convert"
)

func at(m api.Mat, i, j int) float64 { return m.At[i*m.Cols+j] }

func filled(rows, cols int, number func(i, j int) float64) api.Mat {
	out := api.Mat{Rows: rows, Cols: cols, At: make([]float64, rows*cols)}
	for i := range rows {
		for j := range cols {
			out.At[i*cols+j] = number(i, j)
		}
	}
	return out
}

// byPower is x times 2^k, rounded once.
func byPower(x float64, k int) float64 {
	y, _, _ := convert.Scale(x, k, api.ModeNear)
	return y
}

func allByPower(x []float64, k int) []float64 {
	out := make([]float64, len(x))
	for i := range len(x) {
		out[i] = byPower(x[i], k)
	}
	return out
}

// power is that of a list, if not all of it is 0.
func power(x []float64) (int, bool) {
	greatest := 0.0
	for i := range len(x) {
		greatest = max(greatest, math.Abs(x[i]))
	}
	// The fraction that Frexp tells is from a half on, not from 1.
	_, k := math.Frexp(greatest)
	return k - 1, greatest > 0
}

// dot is a dot product in order of two lists of one length. Each product is turned into a float64 ahead of being added, so that the two aren't fused.
func dot(x, y []float64) float64 {
	sum := 0.0
	for i := range len(x) {
		sum += float64(x[i] * y[i])
	}
	return sum
}

func root(y []float64) float64 { return math.Sqrt(dot(y, y)) }

// mirror is what House tells of a list: a[j] becomes a[j] - t * v[j]. If w is 0, nothing is mirrored.
type mirror struct {
	v []float64
	w float64
}

func (m mirror) turn(a []float64) {
	if m.w == 0 {
		return
	}
	t := dot(a, m.v) / m.w
	for j := range len(a) {
		a[j] -= float64(t * m.v[j])
	}
}

// reduce makes a lower triangle out of rows, row by row, and tells by which mirrors. No row may be shorter than there are rows.
func reduce(rows [][]float64) ([]mirror, api.Errno) {
	mirrors := make([]mirror, len(rows))
	for i := range len(rows) {
		v, w, alpha, err := House(rows[i][i:])
		if err != api.OK {
			return nil, err
		}
		mirrors[i] = mirror{v: v, w: w}
		clear(rows[i][i:])
		rows[i][i] = alpha
		for k := i + 1; k < len(rows); k++ {
			mirrors[i].turn(rows[k][i:])
			// Looking behind the turn is enough: v[0] isn't 0, so a t that isn't finite stays to be seen.
			if !anatomy.Finite(rows[k]) {
				return nil, api.ErrOver
			}
		}
	}
	return mirrors, api.OK
}

// upright is a number whose row or column goes with one on the diagonal: that mustn't be below 0.
func upright(x, diagonal float64) float64 {
	switch {
	case x == 0:
		return 0
	case diagonal < 0:
		return -x
	}
	return x
}

// width is how many columns matrices have together.
func width(l []api.Mat) int {
	sum := 0
	for i := range len(l) {
		sum += l[i].Cols
	}
	return sum
}

// beside is the rows of all matrices beside one another, none shorter than there are rows.
func beside(l []api.Mat) [][]float64 {
	out := make([][]float64, l[0].Rows)
	wide := max(width(l), len(out))
	for i := range len(out) {
		row := make([]float64, 0, wide)
		for _, m := range l {
			row = append(row, m.At[i*m.Cols:(i+1)*m.Cols]...)
		}
		// What is behind the last number is new memory, and so +0.
		out[i] = row[:wide]
	}
	return out
}

func columnsOf(m api.Mat) [][]float64 {
	out := make([][]float64, m.Cols)
	for j := range m.Cols {
		out[j] = make([]float64, m.Rows)
		for i := range m.Rows {
			out[j][i] = at(m, i, j)
		}
	}
	return out
}

// mirroredUnits is the first columns of the unit matrix, as many as mirrors, mirrored by the last one first. Their lengths stay near 1, so no step can be beyond what numbers hold.
func mirroredUnits(mirrors []mirror, rows int) [][]float64 {
	out := make([][]float64, len(mirrors))
	for i := range len(out) {
		out[i] = make([]float64, rows)
		out[i][i] = 1
		for j := len(mirrors) - 1; j >= 0; j-- {
			mirrors[j].turn(out[i][j:])
		}
	}
	return out
}
