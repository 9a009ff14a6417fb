package info_test

import (
	"math"
	"math/rand"
	"testing"

	"binnacle/api"
	"binnacle/info"
)

// lowestOf is the first of a set's members, by which its error is to be told; -1 of none.
func lowestOf(set, members int) int {
	for k := range members {
		if set>>k&1 == 1 {
			return k
		}
	}
	return -1
}

// errorOf is the error of the first of a set's faults, or the other one.
func errorOf(set int, faults []api.Errno, other api.Errno) api.Errno {
	if k := lowestOf(set, len(faults)); k >= 0 {
		return faults[k]
	}
	return other
}

// spoilSquare puts a set of faults into a matrix of two rows and its list: a range, a length, a number, the list's length, its number.
func spoilSquare(set int, m *api.Mat, l *[]float64) {
	has := func(k int) bool { return set>>k&1 == 1 }
	if has(4) {
		(*l)[1] = inf
	}
	if has(3) {
		*l = append(*l, 3)
	}
	if has(2) {
		m.At[0] = nan
	}
	if has(1) {
		m.At = m.At[:3]
	}
	if has(0) {
		m.Rows = 13
	}
}

// squareFaults are the errors of spoilSquare's faults, in the order in which the chapter names them, and more.
func squareFaults(more ...api.Errno) []api.Errno {
	return append(errs(api.ErrRange, api.ErrShape, api.ErrNumber, api.ErrShape, api.ErrNumber), more...)
}

// infoFaults are the errors of spoiltInfo's faults.
func infoFaults() []api.Errno { return squareFaults(api.ErrCovSym, api.ErrInfo) }

// spoiltInfo is an information of two numbers with a set of faults.
func spoiltInfo(set int) api.Info {
	a := information(list(8, 9), 4, 2, 2, 5)
	if set>>6&1 == 1 {
		a.Y.At[3] = 1
	}
	if set>>5&1 == 1 {
		a.Y.At[1] = math.Nextafter(2, 3)
	}
	spoilSquare(set, &a.Y, &a.V)
	return a
}

// rootFaults are the errors of spoiltRoot's faults.
func rootFaults() []api.Errno { return squareFaults(api.ErrUpperTri, api.ErrUpperTri) }

// spoiltRoot is a root of two numbers with a set of faults.
func spoiltRoot(set int) api.RootInfo {
	a := rootOf(list(4, 2.5), 2, 1, 0, 2)
	if set>>6&1 == 1 {
		a.R.At[3] = -2
	}
	if set>>5&1 == 1 {
		a.R.At[2] = minus
	}
	spoilSquare(set, &a.R, &a.Z)
	return a
}

// spoiltMat is the unit matrix with a set of faults: good, of two rows and columns, symmetric.
func spoiltMat(set int) api.Mat {
	m := unit(2)
	if set>>4&1 == 1 {
		m.At[1] = minus
	}
	if set>>3&1 == 1 {
		m = mat(1, 2, 1, 0)
	}
	if set>>2&1 == 1 {
		m.At[1] = -inf
	}
	if set>>1&1 == 1 {
		m.At = append(m.At, 1)
	}
	if set&1 == 1 {
		m.Cols = -1
	}
	return m
}

// mustSay tells if a call doesn't refuse as it should, with zero values beside it, or refuses what it shouldn't.
func mustSay(t *testing.T, wrong *int, what string, sets []int, got, want answer) {
	t.Helper()
	if got.err != want.err || want.err != api.OK && !got.is(want) {
		t.Errorf("%s, faults %b: %+v, not %+v", what, sets, got, want)
		few(t, wrong)
	}
}

// P17.1, P17.2, P17.6, P4: all sets of faults of an information, two of them at once and more: the first one is told.
func TestSetsOfFaultsOfOneInfo(t *testing.T) {
	wrong := 0
	for set := range 1 << len(infoFaults()) {
		want := fault(errorOf(set, infoFaults(), api.OK))
		a := spoiltInfo(set)
		mustSay(t, &wrong, "Check", []int{set}, askCheck(a), want)
		mustSay(t, &wrong, "State", []int{set}, askState(a), want)
		mustSay(t, &wrong, "RootOf", []int{set}, askRootOf(a), want)
	}
}

// P17.1, P17.6, P4: all sets of faults of a root, and what goes over behind them.
func TestSetsOfFaultsOfOneRoot(t *testing.T) {
	wrong := 0
	faults := append(rootFaults(), api.ErrOver)
	for set := range 1 << len(faults) {
		a := spoiltRoot(set)
		mustSay(t, &wrong, "CheckRoot", []int{set}, askCheckRoot(a), fault(errorOf(set&(1<<7-1), faults, api.OK)))
		if set>>7&1 == 1 {
			a.Z[0], a.R.At[1] = most, 0x1p1000
			// Half, or the NaN of the fault that is there.
			a.R.At[0] /= 4
		}
		want := fault(errorOf(set, faults, api.OK))
		mustSay(t, &wrong, "Unroot", []int{set}, askUnroot(a), want)
		mustSay(t, &wrong, "Means", []int{set}, askMeans(a), want)
	}
}

// P17.2, P4: all sets of faults of a state, and of what comes of it.
func TestSetsOfFaultsOfOf(t *testing.T) {
	wrong := 0
	faults := squareFaults(api.ErrCovSym, api.ErrCovPos, api.ErrPositive, api.ErrInfo, api.ErrOver)
	for set := range 1 << len(faults) {
		has := func(k int) bool { return set>>k&1 == 1 }
		s := state(list(1, 2), 0.25, 0, 0, 0.25)
		if has(9) {
			s.X = list(most, -most)
		}
		if has(8) {
			s.P = unsteady()
		}
		if has(7) {
			s.P = tight()
		}
		if has(6) {
			s.P.At[3] = -1
		}
		if has(5) {
			s.P.At[1] = math.Nextafter(s.P.At[1], 9)
		}
		spoilSquare(set, &s.P, &s.X)
		mustSay(t, &wrong, "Of", []int{set}, askOf(s), fault(errorOf(set, faults, api.OK)))
	}
}

// P17.4, P4: all sets of faults of two informations, how they go together, and what is wrong with their sum.
func TestSetsOfFaultsOfJoin(t *testing.T) {
	wrong := 0
	behind := errs(api.ErrShape, api.ErrOver, api.ErrInfo)
	for ofA := range 1 << len(infoFaults()) {
		for ofB := range 1 << len(infoFaults()) {
			want := fault(errorOf(ofA, infoFaults(), errorOf(ofB, infoFaults(), api.OK)))
			mustSay(t, &wrong, "Join", []int{ofA, ofB}, askJoin(spoiltInfo(ofA), spoiltInfo(ofB)), want)
			mustSay(t, &wrong, "Join of another size", []int{ofA, ofB}, askJoin(spoiltInfo(ofA), one(1, 1)), fault(errorOf(ofA, infoFaults(), api.ErrShape)))
		}
		for set := range 1 << len(behind) {
			a, b := information(list(1, 2), 1, 1, 1, 1+0x1p-52), information(list(1, 2), 3, 1, 1, 2)
			if set>>2&1 == 1 {
				b.Y = square(0x1p53, 0x1p53-1, 0x1p53-1, 0x1p53-1)
			}
			if set>>1&1 == 1 {
				a.V[1], b.V[1] = most, most
			}
			if set&1 == 1 {
				b = one(most, most)
			}
			mustSay(t, &wrong, "Join", []int{0, 0, set}, askJoin(a, b), fault(errorOf(set, behind, api.OK)))
		}
	}
}

// P17.5, P4: all sets of faults of an information, f and q, and of what comes of them.
func TestSetsOfFaultsOfPredict(t *testing.T) {
	wrong := 0
	good := errs(api.ErrRange, api.ErrShape, api.ErrNumber, api.ErrShape)
	ofNoise := append(good, api.ErrCovSym)
	for set := range 1 << len(infoFaults()) {
		for ofF := range 1 << len(good) {
			for ofQ := range 1 << len(ofNoise) {
				want := fault(errorOf(set, infoFaults(), errorOf(ofF, good, errorOf(ofQ, ofNoise, api.OK))))
				mustSay(t, &wrong, "Predict", []int{set, ofF, ofQ}, askPredict(spoiltInfo(set), spoiltMat(ofF), spoiltMat(ofQ)), want)
				if set == 0 {
					over := information(list(most, 0), 0.25, 0, 0, 1)
					mustSay(t, &wrong, "Predict, State over ahead", []int{ofF, ofQ}, askPredict(over, spoiltMat(ofF), spoiltMat(ofQ)), fault(api.ErrOver))
				}
			}
		}
	}
}

// P17.3, P17.7, P4: all sets of faults of an information or a root, a row, its variance, its value and what goes over.
func TestSetsOfFaultsOfRows(t *testing.T) {
	wrong := 0
	more := errs(api.ErrShape, api.ErrNumber, api.ErrNumber, api.ErrVariance, api.ErrNumber, api.ErrOver)
	for set := range 1 << (7 + len(more)) {
		has := func(k int) bool { return set>>k&1 == 1 }
		h, r, z := list(1, 2), 3.0, 4.0
		if has(12) {
			h[0] = 0x1p600
		}
		if has(11) {
			z = -inf
		}
		if has(10) {
			r = -1
		}
		if has(9) {
			r = math.Copysign(inf, r)
		}
		if has(8) {
			h[1] = nan
		}
		if has(7) {
			h = h[:1]
		}
		mustSay(t, &wrong, "Update", []int{set}, askUpdate(spoiltInfo(set), h, r, z), fault(errorOf(set, append(infoFaults(), more...), api.OK)))
		mustSay(t, &wrong, "UpdateRoot", []int{set}, askUpdateRoot(spoiltRoot(set), h, r, z), fault(errorOf(set, append(rootFaults(), more...), api.OK)))
	}
}

// P17.3, P4: all sets of faults of an information, rows, how they go together, and two rows of three.
func TestSetsOfFaultsOfSomeRows(t *testing.T) {
	wrong := 0
	faults := append(infoFaults(), api.ErrRange, api.ErrShape, api.ErrNumber, api.ErrShape, api.ErrShape, api.ErrVariance, api.ErrNumber)
	for set := range 1 << len(faults) {
		has := func(k int) bool { return set>>k&1 == 1 }
		a, h, r, z := spoiltInfo(set), mat(3, 2, 1, 0, 0, 1, 1, 1), filled(3, 1), filled(3, 1)
		if has(13) {
			z[2] = nan
		}
		if has(12) {
			r[1] = minus
		}
		if has(11) {
			z = append(z, 1)
		}
		if has(10) {
			r = r[:2]
		}
		if has(9) {
			h.At[5] = inf
		}
		if has(8) {
			h.At = append(h.At, 1)
		}
		if has(7) {
			h.Rows = -1
		}
		want := fault(errorOf(set, faults, api.OK))
		if k := lowestOf(set, len(faults)); k >= 12 {
			want.place = k - 11
		}
		mustSay(t, &wrong, "Rows", []int{set}, askRows(a, h, r, z), want)
	}
}

// anyBits is a float of any bits.
func anyBits(r *rand.Rand) float64 { return math.Float64frombits(r.Uint64()) }

// anyInt is an int of any size.
func anyInt(r *rand.Rand) int { return int(int64(r.Uint64()) >> r.Intn(64)) }

// P1: any numbers at all: every call ends and says what the words say.
func TestAnythingComesIn(t *testing.T) {
	r := rand.New(rand.NewSource(1701))
	wrong := 0
	numbers := func(n int) (out []float64) {
		for range n {
			out = append(out, oneOf(r, anyBits(r), anyFinite(r), 1))
		}
		return out
	}
	matrix := func(n, m int) api.Mat {
		return mat(oneOf(r, anyInt(r), n, n, n), oneOf(r, anyInt(r), m, m, m), numbers(oneOf(r, r.Intn(20), n*m, n*m))...)
	}
	for range 8000 {
		n, kind := r.Intn(4), r.Intn(kinds)
		q := question{a: fitInfo(r, kind, n), b: fitInfo(r, kind, n), s: fitState(r, kind, n), root: fitRoot(r, kind, n), f: matrix(n, n), q: matrix(n, n), h: numbers(n), r: anyBits(r), z: anyBits(r)}
		if r.Intn(3) == 0 {
			q.a, q.b = api.Info{Y: matrix(n, n), V: numbers(oneOf(r, n, r.Intn(20)))}, api.Info{Y: matrix(n, n), V: numbers(n)}
			q.s, q.root = api.State{X: numbers(oneOf(r, n, r.Intn(20))), P: matrix(n, n)}, api.RootInfo{R: matrix(n, n), Z: numbers(oneOf(r, n, r.Intn(20)))}
		}
		rows := r.Intn(4)
		q.rows, q.rs, q.zs = matrix(rows, n), numbers(rows), numbers(rows)
		for _, c := range calls() {
			held(t, &wrong, c, q)
		}
	}
	if info.Check(api.Info{}) != api.OK || info.CheckRoot(api.RootInfo{}) != api.OK {
		t.Error("nothing may be")
	}
}
