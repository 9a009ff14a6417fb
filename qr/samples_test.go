package qr_test

import (
	"math"
	"math/rand"
	"slices"
	"testing"

	"binnacle/api"
)

var (
	inf   = math.Inf(1)
	minus = math.Copysign(0, -1)
	nan   = math.NaN()
)

const (
	most  = math.MaxFloat64
	least = 0x1p-1074
)

func mat(rows, cols int, at ...float64) api.Mat { return api.Mat{Rows: rows, Cols: cols, At: at} }

func mats(l ...api.Mat) []api.Mat { return l }

func list(x ...float64) []float64 { return x }

// repeated is a list of one number.
func repeated(x float64, n int) []float64 { return slices.Repeat(list(x), n) }

// diagonal is a matrix with these numbers on the diagonal, else +0.
func diagonal(d ...float64) api.Mat {
	return table(len(d), len(d), func(i, j int) float64 {
		if i == j {
			return d[i]
		}
		return 0
	})
}

// eye is the unit matrix.
func eye(n int) api.Mat { return diagonal(repeated(1, n)...) }

// with is m with another number at a place.
func with(m api.Mat, i, j int, x float64) api.Mat {
	out := mat(m.Rows, m.Cols, slices.Clone(m.At)...)
	out.At[i*m.Cols+j] = x
	return out
}

// turned is m with rows and columns exchanged.
func turned(m api.Mat) api.Mat {
	return table(m.Cols, m.Rows, func(i, j int) float64 { return number(m, j, i) })
}

// sameNumber tells of bits, those of NaNs and noughts too.
func sameNumber(a, b float64) bool { return math.Float64bits(a) == math.Float64bits(b) }

func sameList(a, b []float64) bool { return slices.EqualFunc(a, b, sameNumber) }

func sameMat(a, b api.Mat) bool {
	return a.Rows == b.Rows && a.Cols == b.Cols && sameList(a.At, b.At)
}

// few stops a test that has found enough.
func few(t *testing.T, wrong *int) {
	t.Helper()
	if *wrong++; *wrong > 10 {
		t.FailNow()
	}
}

// numbers are finite ones at and beside the places that matter.
func numbers() []float64 {
	out := []float64{0, minus}
	for _, x := range []float64{least, 0x3p-1074, 0x1p-1022 - least, 0x1p-1022, 0x1p-537, 0x1p-60, 0.1, 0.5, 1, 1 + 0x1p-52, 3, 1<<53 - 1, 0x1p100, 0x1p511, 0x1p512, 0x1p1023, most} {
		out = append(out, x, -x)
	}
	return out
}

// unfit are numbers that aren't finite.
func unfit() []float64 {
	return []float64{inf, -inf, nan, -nan, math.Float64frombits(0x7ff0000000000001), math.Float64frombits(0xffffffffffffffff)}
}

func scaled(r *rand.Rand, low, high int) float64 {
	x := math.Ldexp(1+r.Float64(), low+r.Intn(high-low+1))
	if r.Intn(2) == 0 {
		return -x
	}
	return x
}

func nought(r *rand.Rand) float64 { return math.Copysign(0, float64(r.Intn(2))-0.5) }

// chanceSide is how many rows or columns a matrix has: none, one, few, rarely the most.
func chanceSide(r *rand.Rand) int {
	return []int{0, 1, 1, 2, 2, 3, 3, 4, 5, 7, api.MaxDim}[r.Intn(11)]
}

// chanceWide is how many numbers a list has.
func chanceWide(r *rand.Rand) int {
	return []int{0, 1, 2, 3, 5, 12, 13, 30, api.MaxWide - 1, api.MaxWide}[r.Intn(10)]
}

// The kinds of chance numbers.
const (
	kindWhole  = iota // small whole numbers, noughts of either sign among them
	kindMild          // of one size
	kindWide          // from 2^-400 to 2^400, and noughts
	kindNought        // noughts of either sign, most of all
	kindEdge          // at and beside the places that matter
	kindBits          // any bits
	kindGreat         // lengths go beyond what numbers hold, or nearly
	kindLittle        // subnormals and such that are nearly
	kinds
)

// chanceNumber is a finite number of a kind.
func chanceNumber(r *rand.Rand, kind int) float64 {
	switch kind {
	case kindWhole:
		if n := r.Intn(9) - 4; n != 0 {
			return float64(n)
		}
		return nought(r)
	case kindMild:
		return scaled(r, -4, 4)
	case kindWide:
		if r.Intn(6) == 0 {
			return nought(r)
		}
		return scaled(r, -400, 399)
	case kindNought:
		if r.Intn(5) == 0 {
			return scaled(r, -1, 1)
		}
		return nought(r)
	case kindEdge:
		l := numbers()
		return l[r.Intn(len(l))]
	case kindGreat:
		return scaled(r, 1018, 1022)
	case kindLittle:
		return scaled(r, -1073, -1018)
	}
	for {
		if x := math.Float64frombits(r.Uint64()); isFinite(x) {
			return x
		}
	}
}

func chanceList(r *rand.Rand, kind, n int) []float64 {
	out := make([]float64, n)
	for i := range out {
		out[i] = chanceNumber(r, kind)
	}
	return out
}

func chanceMat(r *rand.Rand, kind, rows, cols int) api.Mat {
	return mat(rows, cols, chanceList(r, kind, rows*cols)...)
}

// chanceBeside are matrices of a kind that go beside one another; some of their rows are noughts alone, or what another row is, times a power of 2.
func chanceBeside(r *rand.Rand, kind, rows, most int) []api.Mat {
	var out []api.Mat
	for wide := 0; ; {
		cols := chanceSide(r)
		if wide += cols; wide > most || len(out) > 4 {
			break
		}
		out = append(out, hung(r, chanceMat(r, kind, rows, cols)))
	}
	if len(out) == 0 {
		out = mats(mat(rows, 0))
	}
	return out
}

// hung makes rows out of others at times.
func hung(r *rand.Rand, m api.Mat) api.Mat {
	if m.Rows < 2 || r.Intn(3) > 0 {
		return m
	}
	i, k, by := r.Intn(m.Rows), r.Intn(m.Rows), []float64{0, 0, 0.5, -0.5, 1, -0.25}[r.Intn(6)]
	return table(m.Rows, m.Cols, func(row, j int) float64 {
		if row == i {
			return by * number(m, k, j)
		}
		return number(m, row, j)
	})
}

// chanceTall is a matrix of a kind with at least as many rows as columns.
func chanceTall(r *rand.Rand, kind int) api.Mat {
	a, b := chanceSide(r), chanceSide(r)
	return turned(hung(r, chanceMat(r, kind, min(a, b), max(a, b))))
}

// spoilt is a matrix that isn't good, with what is wrong with it.
type spoilt struct {
	m   api.Mat
	err api.Errno
}

// spoiltMats are wrong in one way or in several; what P8 names first is what is to be told.
func spoiltMats() []spoilt {
	full := make([]float64, 13*13)
	out := []spoilt{
		{mat(-1, 0), api.ErrRange}, {mat(0, -1), api.ErrRange}, {mat(-1, -1, 1), api.ErrRange}, {mat(-2, -2, 1, 2, 3, 4), api.ErrRange},
		{mat(13, 0), api.ErrRange}, {mat(0, 13), api.ErrRange}, {mat(13, 13, full...), api.ErrRange}, {mat(13, 13, nan), api.ErrRange}, {mat(2, 13, 1), api.ErrRange}, {mat(13, 1, full[:13]...), api.ErrRange}, {mat(1, 13, full[:13]...), api.ErrRange},
		{mat(math.MaxInt, math.MaxInt), api.ErrRange}, {mat(math.MinInt, math.MinInt), api.ErrRange}, {mat(math.MinInt, 0), api.ErrRange}, {mat(0, math.MaxInt), api.ErrRange}, {mat(1<<30, 1<<30, 1), api.ErrRange},
		{mat(1, 2, 1), api.ErrShape}, {mat(0, 0, 1), api.ErrShape}, {mat(0, 5, 1), api.ErrShape}, {mat(1, 1), api.ErrShape}, {mat(1, 1, 1, 2), api.ErrShape}, {mat(2, 2, 1, 2, 3), api.ErrShape}, {mat(2, 2, 1, 0, 0, 1, 0), api.ErrShape}, {mat(12, 12, full[:143]...), api.ErrShape}, {mat(12, 12, full[:145]...), api.ErrShape},
		{mat(1, 2, nan), api.ErrShape}, {mat(2, 2, inf, 1, 2, 3, 4), api.ErrShape}, {mat(0, 0, nan), api.ErrShape},
		{mat(2, 2, 1, 2, 3, inf), api.ErrNumber}, {mat(2, 2, 1, nan, nan, 1), api.ErrNumber}, {mat(1, 3, 1, -inf, 3), api.ErrNumber}, {mat(3, 1, 1, 2, nan), api.ErrNumber}, {mat(12, 12, append(slices.Clone(full[:143]), nan)...), api.ErrNumber},
	}
	for _, x := range unfit() {
		out = append(out, spoilt{mat(1, 1, x), api.ErrNumber}, spoilt{mat(2, 1, 1, x), api.ErrNumber}, spoilt{diagonal(1, x), api.ErrNumber})
	}
	return out
}

// goods are matrices of which P8 says nothing wrong: tall, wide, square, of noughts, without rows or columns, such whose steps are beyond.
func goods() []api.Mat {
	return []api.Mat{
		mat(0, 0), mat(0, 1), mat(0, 12), mat(1, 0), mat(2, 0), mat(12, 0), mat(1, 1, 2), mat(1, 1, -2), mat(1, 1, minus), mat(1, 2, 3, 4), mat(2, 1, 3, 4), mat(2, 1, most, most), mat(1, 2, most, most),
		mat(2, 2, 1, 0, 1, 1), mat(2, 2, 0, 0, 0, 0), mat(2, 3, 1, 2, 3, 4, 5, 6), mat(3, 2, 1, 2, 3, 4, 5, 6), mat(3, 2, 1, 2, 1, 2, 1, 2), eye(3), eye(12), mat(12, 1, repeated(1, 12)...), mat(1, 12, repeated(1, 12)...),
	}
}
