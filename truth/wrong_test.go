package truth_test

import (
	"math"
	"math/rand"
	"testing"

	"binnacle/api"
	"binnacle/truth"
)

// lowestOf is the first of a set's members, by which its error is to be told; -1 of none.
func lowestOf(set, members int) int {
	for k := range members {
		if set>>k&1 == 1 {
			return k
		}
	}
	return -1
}

// errorOf is the error of the first of a set's faults, or the other one.
func errorOf(set int, faults []api.Errno, other api.Errno) api.Errno {
	if k := lowestOf(set, len(faults)); k >= 0 {
		return faults[k]
	}
	return other
}

// refuses holds an answer to an error, with zero values beside it.
func refuses(t *testing.T, wrong *int, what string, set int, got answer, want answer) {
	t.Helper()
	if got.err != want.err || want.err != api.OK && !got.is(want) {
		t.Errorf("%s, faults %b: %+v, not %+v", what, set, got, want)
		few(t, wrong)
	}
}

// stateFaults are the errors of spoiltState's faults, in the order in which the chapter names them.
func stateFaults() []api.Errno {
	return errs(api.ErrRange, api.ErrShape, api.ErrFrac, api.ErrShape, api.ErrFrac, api.ErrFracSym, api.ErrCovPos)
}

// spoiltState is a state of two numbers with a set of faults.
func spoiltState(set int) api.FracState {
	has := func(k int) bool { return set>>k&1 == 1 }
	s := state(fracs("1", "2/3"), "2", "1", "1", "2")
	if has(6) {
		s.P.At[3] = "1/2"
	}
	if has(5) {
		s.P.At[1] = "9/8"
	}
	if has(4) {
		s.X[1] = "-0"
	}
	if has(3) {
		s.X = append(s.X, "3")
	}
	if has(2) {
		s.P.At[0] = "2/4"
	}
	if has(1) {
		s.P.At = s.P.At[:3]
	}
	if has(0) {
		s.P.Rows = 13
	}
	return s
}

// spoiltInfo is that as an information.
func spoiltInfo(set int) api.FracInfo {
	s := spoiltState(set)
	return api.FracInfo{Y: s.P, V: s.X}
}

// squareFaults are the errors of spoiltSquare's.
func squareFaults() []api.Errno {
	return errs(api.ErrRange, api.ErrShape, api.ErrFrac, api.ErrShape, api.ErrFracSym)
}

// spoiltSquare is the unit matrix with a set of faults: good, square, of two rows; unlike across the diagonal.
func spoiltSquare(set int) api.FracMat {
	m := unit(2)
	if set>>4&1 == 1 {
		m.At[2] = "1/9"
	}
	if set>>3&1 == 1 {
		m = frac(2, 3, "1", "0", "0", "0", "1", "0")
	}
	if set>>2&1 == 1 {
		m.At[1] = "x"
	}
	if set>>1&1 == 1 {
		m.At = append(m.At, "1")
	}
	if set&1 == 1 {
		m.Cols = -1
	}
	return m
}

// P18.1, P18.2, P4: all sets of faults of a state, f and q, two of them at once and more: the first one is told, with zero values beside it.
func TestSetsOfFaultsOfPredict(t *testing.T) {
	wrong := 0
	for set := range 1 << 7 {
		s := spoiltState(set)
		want := fault(errorOf(set, stateFaults(), api.OK))
		refuses(t, &wrong, "Check", set, fault(truth.Check(s)), want)
		refuses(t, &wrong, "Near", set, saysNumbers(truth.Near(s)), want)
		refuses(t, &wrong, "Info", set, saysInfo(truth.Info(s)), want)
		refuses(t, &wrong, "Back", set, saysState(truth.Back(spoiltInfo(set))), want)
		for ofF := range 1 << 4 {
			for ofQ := range 1 << 5 {
				want := fault(errorOf(set, stateFaults(), errorOf(ofF, squareFaults(), errorOf(ofQ, squareFaults(), api.OK))))
				refuses(t, &wrong, "Predict", set|ofF<<7|ofQ<<11, saysState(truth.Predict(s, spoiltSquare(ofF), spoiltSquare(ofQ))), want)
			}
		}
	}
	// What comes of them behind all that is wrong with them: P' that isn't positive ahead of what is too long.
	for set := range 8 {
		f, q, s := diagonal("1", "1"), diagonal("0", "0"), state(fracs("0", "0"), "1", "0", "0", "1")
		if set>>2&1 == 1 {
			f.At[0] = power(40000, 0)
		}
		if set>>1&1 == 1 {
			f.At[3] = "0"
		}
		if set&1 == 1 {
			q.At[1] = "1"
		}
		refuses(t, &wrong, "Predict's answer", set, saysState(truth.Predict(s, f, q)), fault(errorOf(set, errs(api.ErrFracSym, api.ErrCovPos, api.ErrLong), api.OK)))
	}
}

// P18.3, P18.5, P4: all sets of faults of a state or an information, a row, its variance, its value, and what is too long.
func TestSetsOfFaultsOfRow(t *testing.T) {
	faults := append(stateFaults(), api.ErrShape, api.ErrFrac, api.ErrFrac, api.ErrVariance, api.ErrFrac, api.ErrLong)
	wrong := 0
	for set := range 1 << len(faults) {
		has := func(k int) bool { return set>>k&1 == 1 }
		h, r, z := fracs("1", "2"), api.Frac("3"), api.Frac("4/5")
		if has(12) {
			h[0] = under(longest())
		}
		if has(11) {
			z = "4/6"
		}
		if has(10) {
			r = "-3"
		}
		if has(9) {
			r += "/"
		}
		if has(8) {
			h[1] = "+2"
		}
		if has(7) {
			h = h[:1]
		}
		s, a := spoiltState(set), spoiltInfo(set)
		want := fault(errorOf(set, faults, api.OK))
		refuses(t, &wrong, "Update", set, saysState(truth.Update(s, h, r, z)), want)
		refuses(t, &wrong, "Short", set, saysState(truth.Short(s, h, r, z)), want)
		refuses(t, &wrong, "Score", set, saysThree(truth.Score(s, h, r, z)), want)
		refuses(t, &wrong, "Learn", set, saysInfo(truth.Learn(a, h, r, z)), want)
	}
}

// P18.4, P4: all sets of faults of a state, rows, how they go together, and two rows of three.
func TestSetsOfFaultsOfRows(t *testing.T) {
	faults := append(stateFaults(), api.ErrRange, api.ErrShape, api.ErrFrac, api.ErrShape, api.ErrShape, api.ErrVariance, api.ErrFrac)
	wrong := 0
	for set := range 1 << len(faults) {
		has := func(k int) bool { return set>>k&1 == 1 }
		s, h, r, z := spoiltState(set), frac(3, 2, "1", "0", "0", "1", "1", "1"), fracs("1", "1", "1"), fracs("1", "1", "1")
		if has(13) {
			z[2] = "1/1"
		}
		if has(12) {
			r[1] = "0"
		}
		if has(11) {
			z = append(z, "1")
		}
		if has(10) {
			r = r[:2]
		}
		if has(9) {
			h.At[5] = "01"
		}
		if has(8) {
			h.At = append(h.At, "1")
		}
		if has(7) {
			h.Rows = -1
		}
		want := fault(errorOf(set, faults, api.OK))
		if k := lowestOf(set, len(faults)); k >= 12 {
			want.place = k - 11
		}
		refuses(t, &wrong, "Rows", set, saysRows(truth.Rows(s, h, r, z)), want)
	}
}

// P18.1, P18.6, P4: all sets of faults of a state of numbers.
func TestSetsOfFaultsOfNumbers(t *testing.T) {
	faults := errs(api.ErrRange, api.ErrShape, api.ErrNumber, api.ErrShape, api.ErrNumber, api.ErrCovSym, api.ErrCovPos)
	wrong := 0
	for set := range 1 << len(faults) {
		has := func(k int) bool { return set>>k&1 == 1 }
		s := numberState(list(1, 2), 2, 1, 1, 2)
		if has(6) {
			s.P.At[3] = 0.5
		}
		if has(5) {
			s.P.At[1] = math.Nextafter(1, 2)
		}
		if has(4) {
			s.X[1] = inf
		}
		if has(3) {
			s.X = append(s.X, 3)
		}
		if has(2) {
			s.P.At[0] = nan
		}
		if has(1) {
			s.P.At = s.P.At[:3]
		}
		if has(0) {
			s.P.Rows = 13
		}
		want := fault(errorOf(set, faults, api.OK))
		refuses(t, &wrong, "Of", set, saysState(truth.Of(s)), want)
		refuses(t, &wrong, "BoxOf", set, saysBox(truth.BoxOf(s)), want)
	}
}

// boxFaults are the errors of spoiltBox's.
func boxFaults() []api.Errno { return errs(api.ErrRange, api.ErrShape, api.ErrBox) }

// spoiltBox is a box of two intervals with a set of faults. With thirteen the count of P is wrong, too.
func spoiltBox(set int) api.Box {
	b := box(points(1, 2), between(2, 3), point(1), point(1), between(2, 3))
	if set>>2&1 == 1 {
		b.X[1] = between(2, 1)
	}
	if set>>1&1 == 1 {
		b.P = b.P[:3]
	}
	if set&1 == 1 {
		b.X = append(b.X, repeated(11, point(1))...)
	}
	return b
}

// spoiltNumbers is the unit matrix with a set of faults, as spoiltSquare.
func spoiltNumbers(set int) api.Mat {
	m := diagonalNumbers(1, 1)
	if set>>4&1 == 1 {
		m.At[2] = minus
	}
	if set>>3&1 == 1 {
		m = mat(2, 3, 1, 0, 0, 0, 1, 0)
	}
	if set>>2&1 == 1 {
		m.At[1] = -inf
	}
	if set>>1&1 == 1 {
		m.At = append(m.At, 1)
	}
	if set&1 == 1 {
		m.Cols = -1
	}
	return m
}

// P18.6 to P18.8, P4: all sets of faults of a box, what moves it, and a row.
func TestSetsOfFaultsOfBoxes(t *testing.T) {
	wrong := 0
	square := errs(api.ErrRange, api.ErrShape, api.ErrNumber, api.ErrShape, api.ErrCovSym)
	row := errs(api.ErrShape, api.ErrNumber, api.ErrNumber, api.ErrVariance, api.ErrNumber, api.ErrWide)
	for set := range 1 << 3 {
		b := spoiltBox(set)
		refuses(t, &wrong, "CheckBox", set, fault(truth.CheckBox(b)), fault(errorOf(set, boxFaults(), api.OK)))
		for ofF := range 1 << 4 {
			for ofQ := range 1 << 5 {
				want := fault(errorOf(set, boxFaults(), errorOf(ofF, square, errorOf(ofQ, square, api.OK))))
				refuses(t, &wrong, "BoxPredict", set|ofF<<3|ofQ<<7, saysBox(truth.BoxPredict(b, spoiltNumbers(ofF), spoiltNumbers(ofQ))), want)
			}
		}
		for of := range 1 << len(row) {
			has := func(k int) bool { return of>>k&1 == 1 }
			h, r, z := list(1, 2), 3.0, 4.0
			if has(5) {
				b.P[0] = between(-99, 9)
			} else {
				b.P[0] = between(2, 3)
			}
			if has(4) {
				z = -inf
			}
			if has(3) {
				r = -1
			}
			if has(2) {
				r = math.Copysign(inf, r)
			}
			if has(1) {
				h[1] = nan
			}
			if has(0) {
				h = h[:1]
			}
			want := fault(errorOf(set, boxFaults(), errorOf(of, row, api.OK)))
			refuses(t, &wrong, "BoxUpdate", set|of<<3, saysBox(truth.BoxUpdate(b, h, r, z)), want)
		}
	}
}

// anyText is a text of any bytes, or of those of fractions.
func anyText(r *rand.Rand) api.Frac {
	switch r.Intn(8) {
	case 0:
		out := make([]byte, r.Intn(6))
		for i := range out {
			out[i] = byte(r.Intn(256))
		}
		return api.Frac(out)
	case 1:
		out := make([]byte, r.Intn(6))
		for i := range out {
			out[i] = "0123456789-/"[r.Intn(12)]
		}
		return api.Frac(out)
	case 2:
		return oneOf(r, noFractions()...)
	}
	return text(r, r.Intn(kinds))
}

// anyInt is an int of any size.
func anyInt(r *rand.Rand) int { return int(int64(r.Uint64()) >> r.Intn(64)) }

// P1: any texts and numbers at all: every call ends and says what the words say.
func TestAnythingComesIn(t *testing.T) {
	r := rand.New(rand.NewSource(1801))
	wrong := 0
	many := func(n int) (out []api.Frac) {
		for range n {
			out = append(out, anyText(r))
		}
		return out
	}
	floats := func(n int) (out []float64) {
		for range n {
			out = append(out, oneOf(r, math.Float64frombits(r.Uint64()), anyFinite(r), 1))
		}
		return out
	}
	rows := func(n int) int { return oneOf(r, anyInt(r), n, n, n, n) }
	length := func(n int) int { return oneOf(r, r.Intn(20), n, n, n) }
	ends := func(n int) (out []api.Interval) {
		for range n {
			x := floats(2)
			out = append(out, oneOf(r, between(x[0], x[1]), between(min(x[0], x[1]), max(x[0], x[1])), point(1)))
		}
		return out
	}
	for range 4000 {
		n := r.Intn(3)
		q := question{s: fitState(r, r.Intn(kinds), n), a: fitInfo(r, r.Intn(kinds), n), n: fitNumbers(r, n), b: box(ends(n), ends(length(n*n))...)}
		if r.Intn(4) == 0 {
			q.s, q.a = api.FracState{X: many(length(n)), P: frac(rows(n), rows(n), many(length(n*n))...)}, api.FracInfo{V: many(length(n)), Y: frac(rows(n), rows(n), many(length(n*n))...)}
			q.n = api.State{X: floats(length(n)), P: mat(rows(n), rows(n), floats(length(n*n))...)}
		}
		if r.Intn(2) == 0 && len(q.n.P.At) == len(q.n.X)*len(q.n.X) {
			q.b = around(r, q.n)
		}
		q.f, q.q = frac(rows(n), rows(n), many(length(n*n))...), frac(rows(n), rows(n), many(length(n*n))...)
		q.h, q.r, q.z = many(length(n)), anyText(r), anyText(r)
		q.nf, q.nq = mat(rows(n), rows(n), floats(length(n*n))...), mat(rows(n), rows(n), floats(length(n*n))...)
		q.nh, q.nr, q.nz = floats(length(n)), floats(1)[0], floats(1)[0]
		some := r.Intn(3)
		q.rows, q.rs, q.zs = frac(rows(some), rows(n), many(length(some*n))...), many(length(some)), many(length(some))
		for _, c := range calls() {
			held(t, &wrong, c, q)
		}
	}
}
