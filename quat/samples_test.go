package quat_test

import (
	"math"
	"math/rand"
	"slices"
	"testing"

	"binnacle/api"
)

var (
	inf   = math.Inf(1)
	minus = math.Copysign(0, -1)
	nan   = math.NaN()
)

const (
	most  = math.MaxFloat64
	least = 0x1p-1074
)

func quatOf(w, x, y, z float64) api.Quat { return api.Quat{W: w, X: x, Y: y, Z: z} }

func vec(x, y, z float64) api.Vec { return api.Vec{x, y, z} }

func mat(rows, cols int, at ...float64) api.Mat { return api.Mat{Rows: rows, Cols: cols, At: at} }

func list(x ...float64) []float64 { return x }

// the3 is a matrix of space, row by row.
func the3(at ...float64) api.Mat { return mat(3, 3, at...) }

// diagonal3 is a matrix of space with noughts beside the diagonal.
func diagonal3(a, b, c float64) api.Mat { return the3(a, 0, 0, 0, b, 0, 0, 0, c) }

// numbersOf are a quaternion's numbers, W first; quatFrom is the way back.
func numbersOf(q api.Quat) []float64 { return list(q.W, q.X, q.Y, q.Z) }

func quatFrom(l []float64) api.Quat { return quatOf(l[0], l[1], l[2], l[3]) }

// otherSigns is a quaternion with all four signs the other way.
func otherSigns(q api.Quat) api.Quat { return quatOf(-q.W, -q.X, -q.Y, -q.Z) }

// sameNumber tells of bits, those of NaNs and noughts too.
func sameNumber(a, b float64) bool { return math.Float64bits(a) == math.Float64bits(b) }

func sameList(a, b []float64) bool { return slices.EqualFunc(a, b, sameNumber) }

func sameQuat(a, b api.Quat) bool { return sameList(numbersOf(a), numbersOf(b)) }

func sameVec(a, b api.Vec) bool { return sameList(a[:], b[:]) }

func sameMat(a, b api.Mat) bool {
	return a.Rows == b.Rows && a.Cols == b.Cols && sameList(a.At, b.At)
}

// few stops a test that has found enough.
func few(t *testing.T, wrong *int) {
	t.Helper()
	if *wrong++; *wrong > 10 {
		t.FailNow()
	}
}

// numbers are finite ones at and beside the places that matter.
func numbers() []float64 {
	out := []float64{0, minus}
	for _, x := range []float64{least, 0x3p-1074, 0x1p-1022 - least, 0x1p-1022, 0x1p-537, 0x1p-60, 0x1p-24, 0.1, 0.5, 1 - 0x1p-53, 1, 1 + 0x1p-52, 3, 1<<53 - 1, 0x1p100, 0x1p511, 0x1p512, 0x1p1023, most} {
		out = append(out, x, -x)
	}
	return out
}

// unfit are numbers that aren't finite.
func unfit() []float64 {
	return []float64{inf, -inf, nan, -nan, math.Float64frombits(0x7ff0000000000001), math.Float64frombits(0xffffffffffffffff)}
}

func scaled(r *rand.Rand, low, high int) float64 {
	x := math.Ldexp(1+r.Float64(), low+r.Intn(high-low+1))
	if r.Intn(2) == 0 {
		return -x
	}
	return x
}

func nought(r *rand.Rand) float64 { return math.Copysign(0, float64(r.Intn(2))-0.5) }

// The kinds of chance numbers.
const (
	kindWhole  = iota // small whole numbers, noughts of either sign among them
	kindMild          // of one size
	kindUnit          // below 1, and noughts
	kindWide          // from 2^-400 to 2^400, and noughts
	kindNought        // noughts of either sign, most of all
	kindEdge          // at and beside the places that matter
	kindBits          // any bits
	kindGreat         // near the greatest
	kindLittle        // subnormals and such that are nearly
	kinds
)

// chanceNumber is a finite number of a kind.
func chanceNumber(r *rand.Rand, kind int) float64 {
	switch kind {
	case kindWhole:
		if n := r.Intn(7) - 3; n != 0 {
			return float64(n)
		}
		return nought(r)
	case kindMild:
		return scaled(r, -4, 4)
	case kindUnit:
		if r.Intn(6) == 0 {
			return nought(r)
		}
		return scaled(r, -1-r.Intn(30), -1)
	case kindWide:
		if r.Intn(6) == 0 {
			return nought(r)
		}
		return scaled(r, -400, 399)
	case kindNought:
		if r.Intn(5) == 0 {
			return scaled(r, -1, 1)
		}
		return nought(r)
	case kindEdge:
		l := numbers()
		return l[r.Intn(len(l))]
	case kindGreat:
		return scaled(r, 1020, 1023)
	case kindLittle:
		return scaled(r, -1073, -1018)
	}
	for {
		if x := math.Float64frombits(r.Uint64()); isFinite(x) {
			return x
		}
	}
}

func chanceQuat(r *rand.Rand, kind int) api.Quat {
	return quatOf(chanceNumber(r, kind), chanceNumber(r, kind), chanceNumber(r, kind), chanceNumber(r, kind))
}

func chanceVec(r *rand.Rand, kind int) api.Vec {
	return vec(chanceNumber(r, kind), chanceNumber(r, kind), chanceNumber(r, kind))
}

func chance3(r *rand.Rand, kind int) api.Mat {
	out := mat(3, 3)
	for range 9 {
		out.At = append(out.At, chanceNumber(r, kind))
	}
	return out
}

// chanceUnit is a quaternion of length 1, nearly, of any kind but the one that can't have one.
func chanceUnit(r *rand.Rand) api.Quat {
	for {
		a := reckoned(func() answer {
			return answer{q: wordsOfUnit(chanceQuat(r, r.Intn(kinds)))}
		})
		if a.err == api.OK {
			return a.q
		}
	}
}

// chanceTurn is the matrix of a turn, at times with a few bits off, or with its places exchanged as the axes may be.
func chanceTurn(r *rand.Rand) api.Mat {
	m := wordsOfMatrix(chanceUnit(r))
	switch r.Intn(4) {
	case 0:
		m.At[r.Intn(9)] += math.Ldexp(1, -10-r.Intn(45))
	case 1:
		m = diagonal3(0, 0, 0)
		for i, j := range r.Perm(3) {
			m.At[3*i+j] = []float64{1, -1}[r.Intn(2)]
		}
	}
	return m
}

// chanceNear is a quaternion that is nearly of length 1: just within what is good, or just beyond.
func chanceNear(r *rand.Rand) api.Quat {
	l := numbersOf(chanceUnit(r))
	by := 1 + float64(r.Intn(65)-32)*0x1p-52
	for i := range l {
		l[i] *= by
	}
	return quatFrom(l)
}

// along is a vector in a's direction, or against it, nearly or just.
func along(r *rand.Rand, a api.Vec) api.Vec {
	by := []float64{1, -1, 2, -2, 0.5, -0.5, 3, -3, 0x1p-30, -0.1}[r.Intn(10)]
	for i := range a {
		a[i] *= by
	}
	if r.Intn(3) == 0 {
		i := r.Intn(3)
		a[i] += math.Ldexp(a[i], -20-r.Intn(33))
	}
	for i := range a {
		if !isFinite(a[i]) {
			return vec(1, 2, 3)
		}
	}
	return a
}

// spoilt is a matrix that isn't good or isn't of space, with what is wrong with it.
type spoilt struct {
	m   api.Mat
	err api.Errno
}

// spoiltMats are wrong in one way or in several; what P8 names first is what is to be told, and what isn't 3 by 3 comes last.
func spoiltMats() []spoilt {
	full := make([]float64, 13*13)
	out := []spoilt{
		{mat(-1, 0), api.ErrRange}, {mat(0, -1), api.ErrRange}, {mat(-3, -3, full[:9]...), api.ErrRange}, {mat(13, 3, full[:39]...), api.ErrRange}, {mat(3, 13, full[:39]...), api.ErrRange}, {mat(13, 13, nan), api.ErrRange},
		{mat(math.MaxInt, math.MaxInt), api.ErrRange}, {mat(math.MinInt, 3), api.ErrRange}, {mat(3, math.MaxInt, full[:9]...), api.ErrRange}, {mat(1<<30, 1<<30, 1), api.ErrRange},
		{mat(3, 3), api.ErrShape}, {mat(3, 3, full[:8]...), api.ErrShape}, {mat(3, 3, full[:10]...), api.ErrShape}, {mat(0, 0, 1), api.ErrShape}, {mat(1, 2, nan), api.ErrShape}, {mat(3, 3, append(full[:7:7], nan)...), api.ErrShape}, {mat(3, 3, append(full[:9:9], inf)...), api.ErrShape},
		{mat(0, 0), api.ErrShape}, {mat(0, 3), api.ErrShape}, {mat(3, 0), api.ErrShape}, {mat(1, 1, 1), api.ErrShape}, {mat(2, 2, 1, 0, 0, 1), api.ErrShape}, {mat(3, 2, full[:6]...), api.ErrShape}, {mat(2, 3, full[:6]...), api.ErrShape}, {mat(4, 4, full[:16]...), api.ErrShape}, {mat(1, 9, full[:9]...), api.ErrShape}, {mat(9, 1, full[:9]...), api.ErrShape}, {mat(3, 4, full[:12]...), api.ErrShape}, {mat(12, 12, full[:144]...), api.ErrShape}, {mat(1, 3, most, most, most), api.ErrShape},
		{mat(1, 1, nan), api.ErrNumber}, {mat(2, 2, 1, 0, 0, inf), api.ErrNumber}, {mat(3, 4, append(full[:11:11], -inf)...), api.ErrNumber}, {mat(12, 12, append(full[:143:143], nan)...), api.ErrNumber}, {the3(nan, most, most, most, most, most, most, most, most), api.ErrNumber},
	}
	for _, x := range unfit() {
		for place := range 9 {
			m := diagonal3(1, 1, 1)
			m.At[place] = x
			out = append(out, spoilt{m, api.ErrNumber})
		}
	}
	return out
}
