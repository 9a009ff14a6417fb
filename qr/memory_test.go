package qr_test

import (
	"math"
	"math/rand"
	"slices"
	"testing"

	"binnacle/api"
)

// roomy is a copy of a list with spare room that isn't empty.
func roomy(l []float64, spare float64) []float64 {
	return append(slices.Clone(l), spare, spare, spare)[:len(l)]
}

// copied is a question in memory of its own, with spare room.
func copied(q question) question {
	q.m.At, q.x = roomy(q.m.At, 77), roomy(q.x, 78)
	l := make([]api.Mat, 0, len(q.l)+2)
	for _, m := range q.l {
		m.At = roomy(m.At, 79)
		l = append(l, m)
	}
	q.l = append(l, mat(1, 1, 80), mat(2, 3, 81))[:len(q.l)]
	return q
}

// all is a list with its spare room.
func all[T any](l []T) []T { return l[:cap(l)] }

// state is what all memory of a question holds.
func state(q question) []float64 {
	out := slices.Concat(all(q.m.At), all(q.x))
	for _, m := range all(q.l) {
		out = append(append(out, float64(m.Rows), float64(m.Cols), float64(len(m.At))), all(m.At)...)
	}
	return out
}

// overwrite spoils all memory of a list.
func overwrite(l []float64) {
	for i := range all(l) {
		all(l)[i] = -1234.5
	}
}

// overwriteAll spoils all memory of a question.
func overwriteAll(q question) {
	overwrite(q.m.At)
	overwrite(q.x)
	for i := range q.l {
		overwrite(q.l[i].At)
		q.l[i] = mat(-5, 7)
	}
}

// spoil writes over an answer, one list of it behind the other, and tells whether the others stayed as they were.
func spoil(a answer) bool {
	lists := [][]float64{a.m.At, a.r.At, a.list}
	unharmed := true
	for i, l := range lists {
		one, other := slices.Clone(lists[(i+1)%3]), slices.Clone(lists[(i+2)%3])
		overwrite(l)
		unharmed = unharmed && sameList(lists[(i+1)%3], one) && sameList(lists[(i+2)%3], other)
	}
	return unharmed
}

// spoiltNumber sets a number that isn't finite somewhere.
func spoiltNumber(r *rand.Rand, l []float64) {
	if len(l) > 0 {
		l[r.Intn(len(l))] = math.Float64frombits(r.Uint64() | 0x7ff<<52)
	}
}

// anything is any question: shapes that fit or not, matrices that are good or not.
func anything(r *rand.Rand, name string) question {
	q := copied(fitting(r, name, r.Intn(kinds)))
	switch r.Intn(7) {
	case 0:
		q.m.Rows, q.m.Cols = r.Intn(16)-2, r.Intn(16)-2
		q.i, q.k = r.Intn(4)-1, r.Intn(4)-1
	case 1:
		q.x = append(q.x, 5)
		q.l = append(q.l, chanceMat(r, kindMild, chanceSide(r), chanceSide(r)))
	case 2:
		spoiltNumber(r, q.m.At)
		spoiltNumber(r, q.x)
		if len(q.l) > 0 {
			spoiltNumber(r, q.l[r.Intn(len(q.l))].At)
		}
	case 3:
		q.a = math.Float64frombits(r.Uint64())
		q.b = math.Float64frombits(r.Uint64())
	case 4:
		q.x = append(q.x, make([]float64, r.Intn(60))...)
		q.l = append(q.l, q.l...)
	case 5:
		if len(q.l) > 0 {
			q.l[r.Intn(len(q.l))].Cols = r.Intn(16) - 2
		}
		q.i, q.k = int(r.Uint64()), int(r.Uint64())
	}
	if r.Intn(50) == 0 {
		q.m, q.x, q.l = mat(int(r.Uint64()), int(r.Uint64()), q.m.At...), nil, nil
	}
	return q
}

// P1, P2: whatever comes in, every call ends, says what the words say, and leaves what it was given as it was, the spare room too.
func TestAnythingComesIn(t *testing.T) {
	r := rand.New(rand.NewSource(1021))
	wrong := 0
	for _, c := range calls() {
		for range 300 {
			q := copied(anything(r, c.name))
			before := state(q)
			held(t, &wrong, c, q)
			if !sameList(state(q), before) {
				t.Errorf("%s changed what it was given: %+v", c.name, q)
				few(t, &wrong)
			}
		}
	}
}

// P2: an answer is new memory: it shares none with what was handed in, nor with another answer, nor do two lists of one; nothing of either is kept.
func TestNewMemory(t *testing.T) {
	r := rand.New(rand.NewSource(1022))
	for _, c := range calls() {
		for range 60 {
			q := copied(fitting(r, c.name, []int{kindMild, kindNought}[r.Intn(2)]))
			one, other, want := c.ask(q), c.ask(q), c.want(q)
			before := state(q)
			if !spoil(one) || !sameList(state(q), before) || !other.is(want) {
				t.Errorf("%s: writing over an answer changed something else", c.name)
			}
			again := copied(q)
			overwriteAll(q)
			if !other.is(want) || !c.ask(again).is(want) {
				t.Errorf("%s: writing over what was given changed an answer", c.name)
			}
		}
	}
}

// Arguments may lie in one memory, the one in the other's spare room.
func TestArgumentsInOneMemory(t *testing.T) {
	room := list(2, 0, 4, 0.5, 8, 1)
	a, b := mat(2, 2), mat(2, 1)
	a.At, b.At = room[:4], room[4:]
	tall := mat(2, 1)
	tall.At = room[1:3]
	hold(t,
		told{"Least", askLeast(a, room[4:]...), askLeast(mat(2, 2, 2, 0, 4, 0.5), 8, 1)},
		told{"Least of its row", askLeast(a, room[:2]...), askLeast(mat(2, 2, 2, 0, 4, 0.5), 2, 0)},
		told{"Least of itself", askLeast(tall, room[1:3]...), isFew(1)},
		told{"Triangle", askTriangle(a, b), askTriangle(mat(2, 2, 2, 0, 4, 0.5), mat(2, 1, 8, 1))},
		told{"Triangle of one, twice", askTriangle(tall, tall), askTriangle(mat(2, 2, 0, 0, 4, 4))},
	)
	if !sameList(room, list(2, 0, 4, 0.5, 8, 1)) {
		t.Errorf("left: %v", room)
	}
}

// P3: nil and empty lists are the same.
func TestNilIsEmpty(t *testing.T) {
	for _, c := range calls() {
		for _, side := range [][2]int{{0, 0}, {0, 3}, {3, 0}, {1, 1}} {
			q := question{m: api.Mat{Rows: side[0], Cols: side[1]}, k: 1, a: 1, b: 1}
			full := q
			full.m.At, full.x, full.l = []float64{}, make([]float64, 0, 5), make([]api.Mat, 0, 2)
			if nothing, empty := c.ask(q), c.ask(full); !nothing.is(empty) || !nothing.is(c.want(q)) {
				t.Errorf("%s: of nil %+v, of an empty list %+v", c.name, nothing, empty)
			}
			q.l, full.l = mats(q.m, q.m), mats(full.m, full.m)
			if nothing, empty := c.ask(q), c.ask(full); !nothing.is(empty) || !nothing.is(c.want(q)) {
				t.Errorf("%s: of nil %+v, of an empty list %+v", c.name, nothing, empty)
			}
		}
	}
}
