package chol_test

import (
	"math"
	"math/rand"
	"slices"
	"testing"

	"binnacle/api"
)

// roomy is a copy of a list with spare room that isn't empty.
func roomy(l []float64, spare float64) []float64 {
	return append(slices.Clone(l), spare, spare, spare)[:len(l)]
}

// copied is a question in memory of its own, with spare room.
func copied(q question) question {
	q.a.At, q.b.At, q.x = roomy(q.a.At, 77), roomy(q.b.At, 78), roomy(q.x, 79)
	return q
}

// all is a list with its spare room.
func all[T any](l []T) []T { return l[:cap(l)] }

// state is what all memory of a question holds.
func state(q question) []float64 { return slices.Concat(all(q.a.At), all(q.b.At), all(q.x)) }

// overwrite spoils all memory of a list.
func overwrite(l []float64) {
	for i := range all(l) {
		all(l)[i] = -1234.5
	}
}

// spoil writes over an answer, one list of it, and tells whether the other ones stayed as they were.
func spoil(a answer) bool {
	list, spans := slices.Clone(a.list), slices.Clone(a.spans)
	overwrite(a.m.At)
	unharmed := sameList(a.list, list) && sameSpans(a.spans, spans)
	m := slices.Clone(a.m.At)
	overwrite(a.list)
	for i := range all(a.spans) {
		all(a.spans)[i] = api.Interval{Lo: 7, Hi: 7}
	}
	return unharmed && sameList(a.m.At, m)
}

// anything is any question: shapes that fit or not, matrices that are good or not.
func anything(r *rand.Rand, name string) question {
	q := fitting(r, name, r.Intn(kinds))
	switch r.Intn(6) {
	case 0:
		q.a.Rows, q.a.Cols = r.Intn(16)-2, r.Intn(16)-2
	case 1:
		q.b.Rows, q.b.Cols = r.Intn(16)-2, r.Intn(16)-2
		q.x = append(q.x, 5)
	case 2:
		for _, l := range [][]float64{q.a.At, q.b.At, q.x} {
			if len(l) > 0 && r.Intn(2) == 0 {
				l[r.Intn(len(l))] = math.Float64frombits(r.Uint64() | 0x7ff<<52)
			}
		}
	case 3:
		if len(q.a.At) > 0 {
			k := r.Intn(len(q.a.At))
			q.a.At[k] = math.Float64frombits(math.Float64bits(q.a.At[k]) ^ 1<<r.Intn(64))
		}
	}
	if r.Intn(50) == 0 {
		q.a, q.x = mat(int(r.Uint64()), int(r.Uint64()), q.a.At...), nil
	}
	return q
}

// P1, P2: whatever comes in, every call ends, says what the words say, and leaves what it was given as it was, the spare room too.
func TestAnythingComesIn(t *testing.T) {
	r := rand.New(rand.NewSource(921))
	wrong := 0
	for _, c := range calls() {
		for range 400 {
			q := copied(anything(r, c.name))
			before := state(q)
			held(t, &wrong, c, q)
			if !sameList(state(q), before) {
				t.Errorf("%s changed what it was given: %+v", c.name, q)
				few(t, &wrong)
			}
		}
	}
}

// P2: an answer is new memory: it shares none with what was handed in, nor with another answer, nor do two lists of one; nothing of either is kept.
func TestNewMemory(t *testing.T) {
	r := rand.New(rand.NewSource(922))
	for _, c := range calls() {
		for range 100 {
			q := copied(fitting(r, c.name, kindMild))
			one, other, want := c.ask(q), c.ask(q), c.want(q)
			before := state(q)
			if !spoil(one) || !sameList(state(q), before) || !other.is(want) {
				t.Errorf("%s: writing over an answer changed something else", c.name)
			}
			again := copied(q)
			for _, l := range [][]float64{q.a.At, q.b.At, q.x} {
				overwrite(l)
			}
			if !other.is(want) || !c.ask(again).is(want) {
				t.Errorf("%s: writing over what was given changed an answer", c.name)
			}
		}
	}
}

// Arguments may lie in one memory, the one in the other's spare room.
func TestArgumentsInOneMemory(t *testing.T) {
	room := list(4, 2, 2, 5, 8, 9)
	a, b := mat(2, 2), mat(2, 1)
	a.At, b.At = room[:4], room[4:]
	triangle := mat(2, 2)
	roots := list(2, 0, 1, 2, 8, 9)
	triangle.At = roots[:4]
	hold(t,
		told{"Solve", askSolve(a, room[4:]), isList(1.375, 1.25)},
		told{"SolveMat", askSolveMat(a, b), isMat(mat(2, 1, 1.375, 1.25))},
		told{"SolveMat of itself", askSolveMat(a, a), isMat(square(1, 0, 0, 1))},
		told{"Solve of its row", askSolve(a, room[:2]), isList(1, 0)},
		told{"Lower", askLower(triangle, roots[4:]), isList(4, 2.5)},
		told{"Upper of its row", askUpper(triangle, roots[2:4]), isList(0, 1)},
	)
	if !sameList(room, list(4, 2, 2, 5, 8, 9)) || !sameList(roots, list(2, 0, 1, 2, 8, 9)) {
		t.Errorf("left: %v, %v", room, roots)
	}
}

// P3: nil and empty lists are the same.
func TestNilIsEmpty(t *testing.T) {
	for _, c := range calls() {
		for _, side := range [][2]int{{0, 0}, {0, 3}, {3, 0}, {1, 1}} {
			q := question{a: api.Mat{Rows: side[0], Cols: side[0]}, b: api.Mat{Rows: side[0], Cols: side[1]}}
			full := q
			full.a.At, full.b.At, full.x = []float64{}, make([]float64, 0, 5), []float64{}
			if nothing, empty := c.ask(q), c.ask(full); !nothing.is(empty) || !nothing.is(c.want(q)) {
				t.Errorf("%s: of nil %+v, of an empty list %+v", c.name, nothing, empty)
			}
		}
	}
}
