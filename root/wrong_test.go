package root_test

import (
	"math"
	"math/rand"
	"testing"

	"binnacle/api"
	"binnacle/root"
)

// lowestOf is the first of a set's members, by which its error is to be told; -1 of none.
func lowestOf(set, members int) int {
	for k := range members {
		if set>>k&1 == 1 {
			return k
		}
	}
	return -1
}

// errorOf is the error of the first of a set's faults, or the other one.
func errorOf(set int, faults []api.Errno, other api.Errno) api.Errno {
	if k := lowestOf(set, len(faults)); k >= 0 {
		return faults[k]
	}
	return other
}

// rootFaults are the errors of spoiltRoot's faults, in the order in which the chapter names them.
func rootFaults() []api.Errno {
	return errs(api.ErrRange, api.ErrShape, api.ErrNumber, api.ErrShape, api.ErrNumber, api.ErrTriangle, api.ErrTriangle)
}

// spoiltRoot is a root of two numbers with a set of faults.
func spoiltRoot(set int) api.Root {
	has := func(k int) bool { return set>>k&1 == 1 }
	s := rootOf(list(1, 2), 2, 0, 1, 2)
	if has(6) {
		s.L.At[3] = -2
	}
	if has(5) {
		s.L.At[1] = minus
	}
	if has(4) {
		s.X[1] = inf
	}
	if has(3) {
		s.X = append(s.X, 3)
	}
	if has(2) {
		s.L.At[0] = nan
	}
	if has(1) {
		s.L.At = s.L.At[:3]
	}
	if has(0) {
		s.L.Rows = 13
	}
	return s
}

// spoiltMat is the unit matrix with a set of faults: good, of two rows, which are more or, of the others, fewer.
func spoiltMat(set int, more bool) api.Mat {
	m := unit(2)
	if set>>3&1 == 1 {
		m = mat(1, 2, 1, 0)
		if more {
			m = mat(3, 2, 1, 0, 0, 1, 0, 0)
		}
	}
	if set>>2&1 == 1 {
		m.At[1] = -inf
	}
	if set>>1&1 == 1 {
		m.At = append(m.At, 1)
	}
	if set&1 == 1 {
		m.Cols = -1
	}
	return m
}

// P16.1, P16.2, P4: all sets of faults of a root, f and g, two of them at once and more: the first one is told, with zero values beside it.
func TestSetsOfFaultsOfPredict(t *testing.T) {
	wrong := 0
	good := errs(api.ErrRange, api.ErrShape, api.ErrNumber, api.ErrShape)
	for set := range 1 << len(rootFaults()) {
		s := spoiltRoot(set)
		ofRoot := errorOf(set, rootFaults(), api.OK)
		if got := root.Check(s); got != ofRoot {
			t.Errorf("Check of %+v: %d, not %d", s, got, ofRoot)
		}
		for ofF := range 1 << 4 {
			for ofG := range 1 << 4 {
				want := errorOf(set, rootFaults(), errorOf(ofF, good, errorOf(ofG, good, api.OK)))
				got := askPredict(s, spoiltMat(ofF, false), spoiltMat(ofG, true))
				if got.err != want || want != api.OK && !got.is(fault(want)) {
					t.Errorf("Predict, faults %b, %b, %b: %+v, not error %d", set, ofF, ofG, got, want)
					few(t, &wrong)
				}
			}
		}
	}
}

// P16.1, P16.6, P4: all sets of faults of a root and a list, and what goes over, or isn't positive behind it.
func TestSetsOfFaultsOfOneRoot(t *testing.T) {
	for set := range 1 << len(rootFaults()) {
		for more := range 1 << 3 {
			s, x := spoiltRoot(set), list(1, 2)
			if more>>2&1 == 1 && len(s.L.At) == 4 {
				s.L.At[2] = most
			}
			if more>>1&1 == 1 {
				x[1] = nan
			}
			if more&1 == 1 {
				x = append(x, 1)
			}
			over := errorOf(more>>2, errs(api.ErrOver), api.OK)
			for _, c := range []struct {
				name string
				got  answer
				want api.Errno
			}{
				{"State", askState(s), errorOf(set, rootFaults(), over)},
				{"Trace", askTrace(s), errorOf(set, rootFaults(), over)},
				{"Distance", askDistance(s, x), errorOf(set, rootFaults(), errorOf(more, errs(api.ErrShape, api.ErrNumber), api.OK))},
			} {
				if c.got.err != c.want || c.want != api.OK && !c.got.is(fault(c.want)) {
					t.Fatalf("%s, faults %b, %b: %+v, not error %d", c.name, set, more, c.got, c.want)
				}
			}
		}
	}
}

// P16.1, P4: all sets of faults of a state.
func TestSetsOfFaultsOfOf(t *testing.T) {
	faults := errs(api.ErrRange, api.ErrShape, api.ErrNumber, api.ErrShape, api.ErrNumber, api.ErrCovSym, api.ErrCovPos)
	for set := range 1 << len(faults) {
		has := func(k int) bool { return set>>k&1 == 1 }
		s := state(list(1, 2), 4, 2, 2, 5)
		if has(6) {
			s.P.At[3] = 1
		}
		if has(5) {
			s.P.At[1] = math.Nextafter(2, 3)
		}
		if has(4) {
			s.X[0] = -inf
		}
		if has(3) {
			s.X = s.X[:1]
		}
		if has(2) {
			s.P.At[2] = nan
		}
		if has(1) {
			s.P.At = append(s.P.At, 1)
		}
		if has(0) {
			s.P.Cols = -1
		}
		want := errorOf(set, faults, api.OK)
		if got := askOf(s); got.err != want || want != api.OK && !got.is(fault(want)) {
			t.Fatalf("Of, faults %b: %+v, not error %d", set, got, want)
		}
	}
}

// P16.2, P4: all sets of faults of a root, a motion, ticks and how many numbers they have.
func TestSetsOfFaultsOfMove(t *testing.T) {
	faults := append(rootFaults(), api.ErrNumber, api.ErrNoise, api.ErrRange, api.ErrShape, api.ErrOver)
	for set := range 1 << len(faults) {
		m := motion(part(api.KindSpeed, 1, 1, 0))
		s, ticks := spoiltRoot(set), second
		if set>>11&1 == 1 && len(s.L.At) == 4 {
			s.X[0], s.X[1] = most, max(s.X[1], most)
		}
		if set>>10&1 == 1 {
			m.Parts = append(m.Parts, part(api.KindStill, 1, 0, 0))
		}
		if set>>9&1 == 1 {
			ticks = -1
		}
		if set>>8&1 == 1 {
			m.Parts[0].Fade = -1
		}
		if set>>7&1 == 1 {
			m.Parts[0].Noise = nan
		}
		want := errorOf(set, faults, api.OK)
		got := askMove(s, m, ticks)
		if got.err != want || want != api.OK && !got.is(fault(want)) {
			t.Fatalf("Move, faults %b: %+v, not error %d", set, got, want)
		}
	}
}

// P16.3, P16.4, P4: all sets of faults of a root, a row, its variance, its value and what goes over.
func TestSetsOfFaultsOfRows(t *testing.T) {
	faults := append(rootFaults(), api.ErrShape, api.ErrNumber, api.ErrNumber, api.ErrVariance, api.ErrNumber, api.ErrOver)
	for set := range 1 << len(faults) {
		has := func(k int) bool { return set>>k&1 == 1 }
		s, h, r, z := spoiltRoot(set), list(1, 2), 3.0, 4.0
		if has(12) {
			h[0] = 0x1p600
		}
		if has(11) {
			z = -inf
		}
		if has(10) {
			r = -1
		}
		if has(9) {
			r = math.Copysign(inf, r)
		}
		if has(8) {
			h[1] = nan
		}
		if has(7) {
			h = h[:1]
		}
		want := errorOf(set, faults, api.OK)
		if got := askUpdate(s, h, r, z); got.err != want || want != api.OK && !got.is(fault(want)) {
			t.Fatalf("Update, faults %b: %+v, not error %d", set, got, want)
		}
		if has(11) {
			want = errorOf(set&^(1<<11), faults, api.OK)
		}
		if got := askForesee(s, h, r); got.err != want || want != api.OK && !got.is(fault(want)) {
			t.Fatalf("Foresee, faults %b: %+v, not error %d", set, got, want)
		}
	}
}

// P16.5, P4: all sets of faults of a root, rows, how they go together, and two rows of three.
func TestSetsOfFaultsOfSomeRows(t *testing.T) {
	faults := append(rootFaults(), api.ErrRange, api.ErrShape, api.ErrNumber, api.ErrShape, api.ErrShape, api.ErrVariance, api.ErrNumber)
	for set := range 1 << len(faults) {
		has := func(k int) bool { return set>>k&1 == 1 }
		s, h, r, z := spoiltRoot(set), mat(3, 2, 1, 0, 0, 1, 1, 1), filled(3, 1), filled(3, 1)
		if has(13) {
			z[2] = nan
		}
		if has(12) {
			r[1] = minus
		}
		if has(11) {
			z = append(z, 1)
		}
		if has(10) {
			r = r[:2]
		}
		if has(9) {
			h.At[5] = inf
		}
		if has(8) {
			h.At = append(h.At, 1)
		}
		if has(7) {
			h.Rows = -1
		}
		want := fault(errorOf(set, faults, api.OK))
		if k := lowestOf(set, len(faults)); k >= 12 {
			want.place = k - 11
		}
		got := askRows(s, h, r, z)
		if got.err != want.err || want.err != api.OK && !got.is(want) {
			t.Fatalf("Rows, faults %b: %+v, not %+v", set, got, want)
		}
	}
}

// anyBits is a float of any bits.
func anyBits(r *rand.Rand) float64 { return math.Float64frombits(r.Uint64()) }

// anyInt is an int of any size.
func anyInt(r *rand.Rand) int { return int(int64(r.Uint64()) >> r.Intn(64)) }

// P1: any numbers at all: every call ends and says what the words say.
func TestAnythingComesIn(t *testing.T) {
	r := rand.New(rand.NewSource(1601))
	wrong := 0
	numbers := func(n int) (out []float64) {
		for range n {
			out = append(out, oneOf(r, anyBits(r), anyFinite(r), 1))
		}
		return out
	}
	matrix := func(n, m int) api.Mat {
		return mat(oneOf(r, anyInt(r), n, n, n), oneOf(r, anyInt(r), m, m, m), numbers(oneOf(r, r.Intn(20), n*m, n*m))...)
	}
	for range 8000 {
		n := r.Intn(4)
		q := question{s: fitRoot(r, r.Intn(kinds), n), known: api.State{X: numbers(n), P: matrix(n, n)}, f: matrix(n, n), g: matrix(n, r.Intn(4)), ticks: int64(r.Uint64()) >> r.Intn(64), h: numbers(n), r: anyBits(r), z: anyBits(r), x: numbers(oneOf(r, n, n, r.Intn(20)))}
		if r.Intn(3) == 0 {
			q.s = api.Root{X: numbers(oneOf(r, n, r.Intn(20))), L: matrix(n, n)}
		}
		for range r.Intn(4) {
			q.m.Parts = append(q.m.Parts, part(oneOf(r, anyInt(r), r.Intn(5)), oneOf(r, anyInt(r), 1), oneOf(r, anyBits(r), 1), oneOf(r, anyBits(r), 0)))
		}
		rows := r.Intn(4)
		q.rows, q.rs, q.zs = matrix(rows, n), numbers(rows), numbers(rows)
		for _, c := range calls() {
			held(t, &wrong, c, q)
		}
	}
}
