package matrix_test

import (
	"math"
	"math/rand"
	"slices"
	"testing"

	"binnacle/api"
)

var (
	inf   = math.Inf(1)
	minus = math.Copysign(0, -1)
	nan   = math.NaN()
)

const (
	most  = math.MaxFloat64
	least = 0x1p-1074
)

func mat(rows, cols int, at ...float64) api.Mat { return api.Mat{Rows: rows, Cols: cols, At: at} }

func list(x ...float64) []float64 { return x }

// sameNumber tells of bits, those of NaNs and noughts too.
func sameNumber(a, b float64) bool { return math.Float64bits(a) == math.Float64bits(b) }

func sameList(a, b []float64) bool { return slices.EqualFunc(a, b, sameNumber) }

func sameMat(a, b api.Mat) bool {
	return a.Rows == b.Rows && a.Cols == b.Cols && sameList(a.At, b.At)
}

// few stops a test that has found enough.
func few(t *testing.T, wrong *int) {
	t.Helper()
	if *wrong++; *wrong > 10 {
		t.FailNow()
	}
}

// must is a matrix that has to be answered.
func must(t *testing.T) func(m api.Mat, err api.Errno) api.Mat {
	return func(m api.Mat, err api.Errno) api.Mat {
		t.Helper()
		if err != api.OK {
			t.Fatalf("error %d", err)
		}
		return m
	}
}

// numbers are finite ones at and beside the places that matter.
func numbers() []float64 {
	out := []float64{0, minus}
	for _, x := range []float64{least, 0x3p-1074, 0x1p-1022 - least, 0x1p-1022, 0x1p-537, 0x1p-60, 0.1, 0.5, 1, 1 + 0x1p-52, 3, 1<<53 - 1, 0x1p100, 0x1p511, 0x1p512, 0x1p1023, most} {
		out = append(out, x, -x)
	}
	return out
}

// unfit are numbers that aren't finite.
func unfit() []float64 {
	return []float64{inf, -inf, nan, -nan, math.Float64frombits(0x7ff0000000000001), math.Float64frombits(0xffffffffffffffff)}
}

// sides are rows and columns that a matrix may have: none, one, the most.
func sides() []int { return []int{0, 1, 2, 3, 5, api.MaxDim - 1, api.MaxDim} }

// kinds is how many kinds of chance numbers there are.
const kinds = 6

func scaled(r *rand.Rand, low, high int) float64 {
	x := math.Ldexp(1+r.Float64(), low+r.Intn(high-low+1))
	if r.Intn(2) == 0 {
		return -x
	}
	return x
}

// chanceNumber is a finite number of a kind: of one kind sums are exact, of others their order shows, products overflow, or fall among the subnormals.
func chanceNumber(r *rand.Rand, kind int) float64 {
	switch kind {
	case 0:
		if n := r.Intn(9) - 4; n != 0 {
			return float64(n)
		}
		return math.Copysign(0, float64(r.Intn(2))-0.5)
	case 1:
		return scaled(r, -20, 20)
	case 2:
		return scaled(r, 490, 511)
	case 3:
		return scaled(r, -560, -500)
	case 4:
		l := numbers()
		return l[r.Intn(len(l))]
	}
	for {
		if x := math.Float64frombits(r.Uint64()); !math.IsNaN(x) && !math.IsInf(x, 0) {
			return x
		}
	}
}

func chanceList(r *rand.Rand, kind, n int) []float64 {
	out := make([]float64, n)
	for i := range out {
		out[i] = chanceNumber(r, kind)
	}
	return out
}

func chanceMat(r *rand.Rand, kind, rows, cols int) api.Mat {
	return mat(rows, cols, chanceList(r, kind, rows*cols)...)
}

func chanceSide(r *rand.Rand) int {
	s := sides()
	return s[r.Intn(len(s))]
}

// chanceSquare is square, one time in two symmetric.
func chanceSquare(r *rand.Rand, kind, n int) api.Mat {
	m := chanceMat(r, kind, n, n)
	if r.Intn(2) == 0 {
		return symmetric(m)
	}
	return m
}

// symmetric is m with what stands above the diagonal below it too.
func symmetric(m api.Mat) api.Mat {
	out := mat(m.Rows, m.Cols, slices.Clone(m.At)...)
	for i := range m.Rows {
		for j := range i {
			out.At[i*m.Cols+j] = out.At[j*m.Cols+i]
		}
	}
	return out
}

// plain is m with all noughts +0.
func plain(m api.Mat) api.Mat {
	out := mat(m.Rows, m.Cols, slices.Clone(m.At)...)
	for i, x := range out.At {
		if x == 0 {
			out.At[i] = 0
		}
	}
	return out
}

// spoilt is a matrix that isn't good, with what is wrong with it.
type spoilt struct {
	m   api.Mat
	err api.Errno
}

// spoiltMats are wrong in one way or in several; what P8 names first is what is to be told.
func spoiltMats() []spoilt {
	full := make([]float64, 13*13)
	out := []spoilt{
		{mat(-1, 0), api.ErrRange}, {mat(0, -1), api.ErrRange}, {mat(-1, -1, 1), api.ErrRange}, {mat(-2, -2, 1, 2, 3, 4), api.ErrRange},
		{mat(13, 0), api.ErrRange}, {mat(0, 13), api.ErrRange}, {mat(13, 1, full[:13]...), api.ErrRange}, {mat(1, 13, full[:13]...), api.ErrRange}, {mat(13, 13, full...), api.ErrRange},
		{mat(13, 13, nan), api.ErrRange}, {mat(13, 2, 1, 2, inf), api.ErrRange}, {mat(2, -1, 1, nan), api.ErrRange}, {mat(2, 13, 1), api.ErrRange},
		{mat(math.MaxInt, math.MaxInt), api.ErrRange}, {mat(math.MinInt, math.MinInt), api.ErrRange}, {mat(math.MinInt, 0), api.ErrRange}, {mat(0, math.MaxInt), api.ErrRange}, {mat(1<<30, 1<<30, 1), api.ErrRange}, {mat(-1, math.MaxInt, 1), api.ErrRange},
		{mat(1, 2, 1), api.ErrShape}, {mat(1, 2, 1, 2, 3), api.ErrShape}, {mat(0, 0, 1), api.ErrShape}, {mat(0, 5, 1), api.ErrShape}, {mat(5, 0, 1), api.ErrShape}, {mat(1, 1), api.ErrShape}, {mat(2, 2, 1, 2, 3), api.ErrShape}, {mat(2, 3, 1, 2, 3, 4, 5), api.ErrShape}, {mat(12, 12, full[:143]...), api.ErrShape}, {mat(12, 12, full[:145]...), api.ErrShape}, {mat(12, 12, full...), api.ErrShape},
		{mat(1, 2, nan), api.ErrShape}, {mat(2, 2, inf, 1, 2, 3, 4), api.ErrShape}, {mat(0, 12, -inf), api.ErrShape},
		{mat(2, 2, 1, 2, 3, inf), api.ErrNumber}, {mat(2, 2, nan, 2, 2, 3), api.ErrNumber}, {mat(1, 3, 1, -inf, 3), api.ErrNumber}, {mat(12, 12, append(slices.Clone(full[:143]), nan)...), api.ErrNumber},
	}
	for _, x := range unfit() {
		out = append(out, spoilt{mat(1, 1, x), api.ErrNumber})
	}
	return out
}

// spoiltList is a list that may not come in, with what is wrong with it.
type spoiltList struct {
	x   []float64
	err api.Errno
}

func spoiltLists() []spoiltList {
	out := []spoiltList{{make([]float64, 13), api.ErrRange}, {make([]float64, 1000), api.ErrRange}, {append(make([]float64, 12), nan), api.ErrRange}, {append(make([]float64, 11), inf), api.ErrNumber}, {list(nan, 1, 2), api.ErrNumber}}
	for _, x := range unfit() {
		out = append(out, spoiltList{list(x), api.ErrNumber}, spoiltList{list(1, x, 2), api.ErrNumber})
	}
	return out
}

// places are indexes and counts, such that are none and such whose sums no int holds among them.
func places() []int {
	return []int{math.MinInt, math.MinInt + 1, -13, -2, -1, 0, 1, 2, 3, 5, 11, 12, 13, math.MaxInt - 1, math.MaxInt}
}
