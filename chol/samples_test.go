package chol_test

import (
	"math"
	"math/rand"
	"slices"
	"testing"

	"binnacle/api"
)

var (
	inf   = math.Inf(1)
	minus = math.Copysign(0, -1)
	nan   = math.NaN()
)

const (
	most  = math.MaxFloat64
	least = 0x1p-1074
)

func mat(rows, cols int, at ...float64) api.Mat { return api.Mat{Rows: rows, Cols: cols, At: at} }

func list(x ...float64) []float64 { return x }

// diagonal is a matrix with these numbers on the diagonal, else +0.
func diagonal(d ...float64) api.Mat {
	return table(len(d), len(d), func(i, j int) float64 {
		if i == j {
			return d[i]
		}
		return 0
	})
}

// with is m with another number at a place.
func with(m api.Mat, i, j int, x float64) api.Mat {
	out := mat(m.Rows, m.Cols, slices.Clone(m.At)...)
	out.At[i*m.Cols+j] = x
	return out
}

// sameNumber tells of bits, those of NaNs and noughts too.
func sameNumber(a, b float64) bool { return math.Float64bits(a) == math.Float64bits(b) }

func sameList(a, b []float64) bool { return slices.EqualFunc(a, b, sameNumber) }

func sameMat(a, b api.Mat) bool {
	return a.Rows == b.Rows && a.Cols == b.Cols && sameList(a.At, b.At)
}

func sameSpans(a, b []api.Interval) bool {
	return slices.EqualFunc(a, b, func(x, y api.Interval) bool { return sameNumber(x.Lo, y.Lo) && sameNumber(x.Hi, y.Hi) })
}

// few stops a test that has found enough.
func few(t *testing.T, wrong *int) {
	t.Helper()
	if *wrong++; *wrong > 10 {
		t.FailNow()
	}
}

// numbers are finite ones at and beside the places that matter.
func numbers() []float64 {
	out := []float64{0, minus}
	for _, x := range []float64{least, 0x3p-1074, 0x1p-1022 - least, 0x1p-1022, 0x1p-537, 0x1p-60, 0.1, 0.5, 1, 1 + 0x1p-52, 3, 1<<53 - 1, 0x1p100, 0x1p511, 0x1p512, 0x1p1023, most} {
		out = append(out, x, -x)
	}
	return out
}

// unfit are numbers that aren't finite.
func unfit() []float64 {
	return []float64{inf, -inf, nan, -nan, math.Float64frombits(0x7ff0000000000001), math.Float64frombits(0xffffffffffffffff)}
}

func scaled(r *rand.Rand, low, high int) float64 {
	x := math.Ldexp(1+r.Float64(), low+r.Intn(high-low+1))
	if r.Intn(2) == 0 {
		return -x
	}
	return x
}

// chanceSide is how many rows a matrix has: none, one, few, the most.
func chanceSide(r *rand.Rand) int {
	return []int{0, 1, 2, 3, 4, 7, api.MaxDim}[r.Intn(7)]
}

// The kinds of chance matrices and of the lists that come with them.
const (
	kindWhole  = iota // small whole numbers, noughts of either sign among them: steps are exact, pivots are often 0
	kindMild          // positive
	kindWide          // positive, rows and columns scaled far up and down
	kindFlat          // so near to singular that roundings decide
	kindEdge          // numbers at and beside the places that matter
	kindBits          // any bits
	kindGreat         // steps go beyond what numbers hold, or nearly
	kindLittle        // steps go below what numbers hold
	kinds
)

// chanceNumber is a finite number of a kind.
func chanceNumber(r *rand.Rand, kind int) float64 {
	switch kind {
	case kindWhole:
		if n := r.Intn(9) - 4; n != 0 {
			return float64(n)
		}
		return math.Copysign(0, float64(r.Intn(2))-0.5)
	case kindMild, kindFlat:
		return scaled(r, -4, 4)
	case kindWide:
		return scaled(r, -120, 120)
	case kindEdge:
		l := numbers()
		return l[r.Intn(len(l))]
	case kindGreat:
		return scaled(r, 480, 520)
	case kindLittle:
		return scaled(r, -560, -480)
	}
	for {
		if x := math.Float64frombits(r.Uint64()); isFinite(x) {
			return x
		}
	}
}

func chanceList(r *rand.Rand, kind, n int) []float64 {
	out := make([]float64, n)
	for i := range out {
		out[i] = chanceNumber(r, kind)
	}
	return out
}

func chanceMat(r *rand.Rand, kind, rows, cols int) api.Mat {
	return mat(rows, cols, chanceList(r, kind, rows*cols)...)
}

// chanceTriangle is a root triangle of a kind.
func chanceTriangle(r *rand.Rand, kind, n int) api.Mat {
	return table(n, n, func(i, j int) float64 {
		for i == j {
			if x := math.Abs(chanceNumber(r, kind)); x > 0 {
				return x
			}
		}
		if i < j {
			return 0
		}
		return chanceNumber(r, kind)
	})
}

// cut is x, or the finite number nearest to an infinity.
func cut(x float64) float64 { return min(max(x, -most), most) }

// squareNear is about L L', symmetric, cut to what numbers hold.
func squareNear(l api.Mat) api.Mat {
	return table(l.Rows, l.Rows, belowDiagonal(func(i, j int) float64 {
		sum := 0.0
		for k := range j + 1 {
			sum = cut(sum + cut(number(l, i, k)*number(l, j, k)))
		}
		return sum
	}))
}

// chanceSymmetric is a symmetric matrix of a kind.
func chanceSymmetric(r *rand.Rand, kind, n int) api.Mat {
	switch kind {
	case kindWhole, kindMild, kindGreat, kindLittle:
		if r.Intn(4) > 0 {
			return squareNear(chanceTriangle(r, kind, n))
		}
	case kindWide:
		return stretched(r, chanceSymmetric(r, kindMild, n))
	case kindFlat:
		return flat(r, n)
	case kindEdge, kindBits:
		if r.Intn(2) == 0 {
			return loose(r, kind, n)
		}
	}
	return mirrored(chanceMat(r, kind, n, n))
}

// mirrored takes the numbers from the diagonal down for those above it.
func mirrored(m api.Mat) api.Mat {
	return table(m.Rows, m.Rows, belowDiagonal(func(i, j int) float64 { return number(m, i, j) }))
}

// loose is a matrix whose diagonal isn't below 0 and weighs more than what stands beside it, so that it goes well at least for some columns.
func loose(r *rand.Rand, kind, n int) api.Mat {
	d := make([]int, n)
	for i := range d {
		_, d[i] = math.Frexp(chanceNumber(r, kind))
	}
	return mirrored(table(n, n, func(i, j int) float64 {
		x := math.Ldexp(1+r.Float64(), (d[i]+d[j])/2-2)
		if i != j {
			x *= float64(r.Intn(9)-4) / 16
		}
		return cut(x)
	}))
}

// stretched multiplies each row and its column by a power of 2: what is positive stays so.
func stretched(r *rand.Rand, m api.Mat) api.Mat {
	powers := make([]int, m.Rows)
	for i := range powers {
		powers[i] = r.Intn(241) - 120
	}
	return table(m.Rows, m.Cols, func(i, j int) float64 { return math.Ldexp(number(m, i, j), powers[i]+powers[j]) })
}

// flat has less rank than rows, but for roundings and for a little on the diagonal.
func flat(r *rand.Rand, n int) api.Mat {
	l := chanceTriangle(r, kindMild, n)
	for i := range n {
		if r.Intn(2) == 0 {
			l = with(l, i, i, math.Ldexp(1, -20-r.Intn(12)))
		}
	}
	return squareNear(l)
}

// spoilt is a matrix that isn't good, with what is wrong with it.
type spoilt struct {
	m   api.Mat
	err api.Errno
}

// spoiltMats are wrong in one way or in several; what P8 names first is what is to be told.
func spoiltMats() []spoilt {
	full := make([]float64, 13*13)
	out := []spoilt{
		{mat(-1, 0), api.ErrRange}, {mat(0, -1), api.ErrRange}, {mat(-1, -1, 1), api.ErrRange}, {mat(-2, -2, 1, 2, 3, 4), api.ErrRange},
		{mat(13, 0), api.ErrRange}, {mat(0, 13), api.ErrRange}, {mat(13, 13, full...), api.ErrRange}, {mat(13, 13, nan), api.ErrRange}, {mat(2, 13, 1), api.ErrRange}, {diagonal(1, 1, 1, 1, 1, 1, 1, 1, 1, 1, 1, 1, 1), api.ErrRange},
		{mat(math.MaxInt, math.MaxInt), api.ErrRange}, {mat(math.MinInt, math.MinInt), api.ErrRange}, {mat(math.MinInt, 0), api.ErrRange}, {mat(0, math.MaxInt), api.ErrRange}, {mat(1<<30, 1<<30, 1), api.ErrRange},
		{mat(1, 2, 1), api.ErrShape}, {mat(0, 0, 1), api.ErrShape}, {mat(0, 5, 1), api.ErrShape}, {mat(1, 1), api.ErrShape}, {mat(1, 1, 1, 2), api.ErrShape}, {mat(2, 2, 1, 2, 3), api.ErrShape}, {mat(2, 2, 1, 0, 0, 1, 0), api.ErrShape}, {mat(12, 12, full[:143]...), api.ErrShape}, {mat(12, 12, full[:145]...), api.ErrShape},
		{mat(1, 2, nan), api.ErrShape}, {mat(2, 2, inf, 1, 2, 3, 4), api.ErrShape}, {mat(0, 0, nan), api.ErrShape},
		{mat(2, 2, 1, 2, 3, inf), api.ErrNumber}, {mat(2, 2, 1, nan, nan, 1), api.ErrNumber}, {mat(2, 2, 1, nan, 0, 1), api.ErrNumber}, {mat(1, 3, 1, -inf, 3), api.ErrNumber}, {mat(3, 1, 1, 2, nan), api.ErrNumber}, {mat(12, 12, append(slices.Clone(full[:143]), nan)...), api.ErrNumber},
	}
	for _, x := range unfit() {
		out = append(out, spoilt{mat(1, 1, x), api.ErrNumber}, spoilt{diagonal(1, x), api.ErrNumber})
	}
	return out
}

// oblong are good matrices that aren't square.
func oblong() []api.Mat {
	return []api.Mat{mat(1, 2, 1, 2), mat(2, 1, 1, 2), mat(0, 1), mat(1, 0), mat(0, 12), mat(12, 0), mat(2, 3, 1, 0, 0, 0, 1, 0), mat(12, 11, make([]float64, 132)...)}
}

// lopsided are square, but symmetric they aren't: by a number, by a bit, by the sign of a nought.
func lopsided() []api.Mat {
	out := []api.Mat{mat(2, 2, 1, 2, 3, 4), mat(2, 2, 1, 0, minus, 1), mat(2, 2, 1, minus, 0, 1), mat(2, 2, 0, 0.5, 0.5+0x1p-53, 0), mat(2, 2, -1, least, 0, -1), mat(2, 2, most, most, -most, most)}
	twelve := diagonal(1, 1, 1, 1, 1, 1, 1, 1, 1, 1, 1, 1)
	return append(out, with(twelve, 11, 10, minus), with(twelve, 0, 11, least), with(diagonal(-1, 0, 0), 2, 0, minus))
}

// noRoots are square, but root triangles they aren't.
func noRoots() []api.Mat {
	out := []api.Mat{mat(1, 1, 0), mat(1, 1, minus), mat(1, 1, -1), mat(1, 1, -least), mat(2, 2, 1, 1, 0, 1), mat(2, 2, 1, minus, 0, 1), mat(2, 2, 1, least, 0, 1), mat(2, 2, 1, 0.5, 0.5, 1), diagonal(1, 0), diagonal(0, 1), diagonal(1, minus), diagonal(1, -most)}
	twelve := diagonal(1, 1, 1, 1, 1, 1, 1, 1, 1, 1, 1, 1)
	return append(out, with(twelve, 0, 11, minus), with(twelve, 10, 11, 1), with(twelve, 11, 11, 0), with(twelve, 11, 11, minus), with(twelve, 0, 0, -1))
}
