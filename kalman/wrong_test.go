package kalman_test

import (
	"math"
	"math/rand"
	"testing"

	"binnacle/api"
	"binnacle/kalman"
)

// lowestOf is the first of a set's members, by which its error is to be told; -1 of none.
func lowestOf(set, members int) int {
	for k := range members {
		if set>>k&1 == 1 {
			return k
		}
	}
	return -1
}

// errorOf is the error of the first of a set's faults, or the other one.
func errorOf(set int, faults []api.Errno, other api.Errno) api.Errno {
	if k := lowestOf(set, len(faults)); k >= 0 {
		return faults[k]
	}
	return other
}

// stateFaults are the errors of spoiltState's faults, in the order in which the chapter names them.
func stateFaults() []api.Errno {
	return errs(api.ErrRange, api.ErrShape, api.ErrNumber, api.ErrShape, api.ErrNumber, api.ErrCovSym, api.ErrCovPos)
}

// spoiltState is a state of two numbers with a set of faults.
func spoiltState(set int) api.State {
	has := func(k int) bool { return set>>k&1 == 1 }
	s := state(list(1, 2), 2, 1, 1, 2)
	if has(6) {
		s.P.At[3] = 0.5
	}
	if has(5) {
		s.P.At[1] = math.Nextafter(1, 2)
	}
	if has(4) {
		s.X[1] = inf
	}
	if has(3) {
		s.X = append(s.X, 3)
	}
	if has(2) {
		s.P.At[0] = nan
	}
	if has(1) {
		s.P.At = s.P.At[:3]
	}
	if has(0) {
		s.P.Rows = 13
	}
	return s
}

// spoiltSquare is the unit matrix with a set of faults: good, square, of two rows; unlike across the diagonal.
func spoiltSquare(set int) api.Mat {
	m := unit(2)
	if set>>4&1 == 1 {
		m.At[2] = minus
	}
	if set>>3&1 == 1 {
		m = mat(2, 3, 1, 0, 0, 0, 1, 0)
	}
	if set>>2&1 == 1 {
		m.At[1] = -inf
	}
	if set>>1&1 == 1 {
		m.At = append(m.At, 1)
	}
	if set&1 == 1 {
		m.Cols = -1
	}
	return m
}

// P15.1, P15.2, P4: all sets of faults of a state, f and q, two of them at once and more: the first one is told, with zero values beside it.
func TestSetsOfFaultsOfPredict(t *testing.T) {
	wrong := 0
	square := errs(api.ErrRange, api.ErrShape, api.ErrNumber, api.ErrShape, api.ErrCovSym)
	for set := range 1 << 7 {
		s := spoiltState(set)
		if got, want := kalman.Check(s), errorOf(set, stateFaults(), api.OK); got != want {
			t.Errorf("Check of %+v: %d, not %d", s, got, want)
		}
		for ofF := range 1 << 4 {
			for ofQ := range 1 << 5 {
				want := errorOf(set, stateFaults(), errorOf(ofF, square[:4], errorOf(ofQ, square, api.OK)))
				got := askPredict(s, spoiltSquare(ofF), spoiltSquare(ofQ))
				if got.err != want || want != api.OK && !got.is(fault(want)) {
					t.Errorf("Predict, faults %b, %b, %b: %+v, not error %d", set, ofF, ofQ, got, want)
					few(t, &wrong)
				}
			}
		}
	}
}

// P15.3, P4: all sets of faults of a state, a motion, ticks and how many numbers they have.
func TestSetsOfFaultsOfMove(t *testing.T) {
	faults := append(stateFaults(), api.ErrNumber, api.ErrNoise, api.ErrRange, api.ErrShape, api.ErrOver)
	for set := range 1 << len(faults) {
		m := motion(part(api.KindSpeed, 1, 1, 0))
		s, ticks := spoiltState(set), second
		if set>>11&1 == 1 && len(s.P.At) == 4 {
			s.X[0], s.X[1] = most, max(s.X[1], most)
		}
		if set>>10&1 == 1 {
			m.Parts = append(m.Parts, part(api.KindStill, 1, 0, 0))
		}
		if set>>9&1 == 1 {
			ticks = -1
		}
		if set>>8&1 == 1 {
			m.Parts[0].Fade = -1
		}
		if set>>7&1 == 1 {
			m.Parts[0].Noise = nan
		}
		want := errorOf(set, faults, api.OK)
		got := saysState(kalman.Move(s, m, ticks))
		if got.err != want || want != api.OK && !got.is(fault(want)) {
			t.Fatalf("Move, faults %b: %+v, not error %d", set, got, want)
		}
	}
}

// P15.4 to P15.6, P4: all sets of faults of a state, a row, its variance, its value, S and what goes over.
func TestSetsOfFaultsOfRows(t *testing.T) {
	faults := append(stateFaults(), api.ErrShape, api.ErrNumber, api.ErrNumber, api.ErrVariance, api.ErrNumber, api.ErrOver)
	for set := range 1 << len(faults) {
		has := func(k int) bool { return set>>k&1 == 1 }
		s, h, r, z := spoiltState(set), list(1, 2), 3.0, 4.0
		if has(12) {
			h[0] = 0x1p600
		}
		if has(11) {
			z = -inf
		}
		if has(10) {
			r = -1
		}
		if has(9) {
			r = math.Copysign(inf, r)
		}
		if has(8) {
			h[1] = nan
		}
		if has(7) {
			h = h[:1]
		}
		want := errorOf(set, faults, api.OK)
		for _, got := range []answer{askUpdate(s, h, r, z), askShort(s, h, r, z)} {
			if got.err != want || want != api.OK && !got.is(fault(want)) {
				t.Fatalf("faults %b: %+v, not error %d", set, got, want)
			}
		}
		if has(11) {
			want = errorOf(set&^(1<<11), faults, api.OK)
		}
		if got := askForesee(s, h, r); got.err != want || want != api.OK && !got.is(fault(want)) {
			t.Fatalf("Foresee, faults %b: %+v, not error %d", set, got, want)
		}
	}
}

// P15.7, P4: all sets of faults of a state, rows, how they go together, and two rows of three.
func TestSetsOfFaultsOfSomeRows(t *testing.T) {
	faults := append(stateFaults(), api.ErrRange, api.ErrShape, api.ErrNumber, api.ErrShape, api.ErrShape, api.ErrVariance, api.ErrNumber)
	for set := range 1 << len(faults) {
		has := func(k int) bool { return set>>k&1 == 1 }
		s, h, r, z := spoiltState(set), mat(3, 2, 1, 0, 0, 1, 1, 1), filled(3, 1), filled(3, 1)
		if has(13) {
			z[2] = nan
		}
		if has(12) {
			r[1] = minus
		}
		if has(11) {
			z = append(z, 1)
		}
		if has(10) {
			r = r[:2]
		}
		if has(9) {
			h.At[5] = inf
		}
		if has(8) {
			h.At = append(h.At, 1)
		}
		if has(7) {
			h.Rows = -1
		}
		want := fault(errorOf(set, faults, api.OK))
		if k := lowestOf(set, len(faults)); k >= 12 {
			want.place = k - 11
		}
		got := askRows(s, h, r, z)
		if got.err != want.err || want.err != api.OK && !got.is(want) {
			t.Fatalf("Rows, faults %b: %+v, not %+v", set, got, want)
		}
	}
}

// anyBits is a float of any bits.
func anyBits(r *rand.Rand) float64 { return math.Float64frombits(r.Uint64()) }

// anyInt is an int of any size.
func anyInt(r *rand.Rand) int { return int(int64(r.Uint64()) >> r.Intn(64)) }

// P1: any numbers at all: every call ends and says what the words say.
func TestAnythingComesIn(t *testing.T) {
	r := rand.New(rand.NewSource(1501))
	wrong := 0
	numbers := func(n int) (out []float64) {
		for range n {
			out = append(out, oneOf(r, anyBits(r), anyFinite(r), 1))
		}
		return out
	}
	matrix := func(n, m int) api.Mat {
		return mat(oneOf(r, anyInt(r), n, n, n), oneOf(r, anyInt(r), m, m, m), numbers(oneOf(r, r.Intn(20), n*m, n*m))...)
	}
	for range 8000 {
		n := r.Intn(4)
		q := question{s: fitState(r, r.Intn(kinds), n), f: matrix(n, n), q: matrix(n, n), ticks: int64(r.Uint64()) >> r.Intn(64), h: numbers(n), r: anyBits(r), z: anyBits(r)}
		if r.Intn(3) == 0 {
			q.s = api.State{X: numbers(oneOf(r, n, r.Intn(20))), P: matrix(n, n)}
		}
		for range r.Intn(4) {
			q.m.Parts = append(q.m.Parts, part(oneOf(r, anyInt(r), r.Intn(5)), oneOf(r, anyInt(r), 1), oneOf(r, anyBits(r), 1), oneOf(r, anyBits(r), 0)))
		}
		rows := r.Intn(4)
		q.rows, q.rs, q.zs = matrix(rows, n), numbers(rows), numbers(rows)
		for _, c := range calls() {
			held(t, &wrong, c, q)
		}
	}
}
