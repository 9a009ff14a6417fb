package matrix_test

import (
	"math"
	"math/rand"
	"slices"
	"testing"

	"binnacle/api"
	"binnacle/matrix"
)

// roomy is a copy of a list with spare room that isn't empty.
func roomy[T any](l []T, spare T) []T {
	out := append(slices.Clone(l), spare, spare, spare)
	return out[:len(l)]
}

// copied is a question in memory of its own, with spare room.
func copied(q question) question {
	out := q
	out.a.At, out.b.At = roomy(q.a.At, 77), roomy(q.b.At, 78)
	out.x, out.y = roomy(q.x, 79), roomy(q.y, 80)
	out.p = roomy(q.p, 0)
	out.grid = roomy(q.grid, list(81))
	for i := range whole(out.grid) {
		whole(out.grid)[i] = roomy(whole(out.grid)[i], 82)
	}
	return out
}

// whole is all of a list, its spare room too.
func whole[T any](l []T) []T { return l[:cap(l)] }

// lists are all lists of numbers of a question, with their spare room.
func lists(q question) [][]float64 {
	out := [][]float64{whole(q.a.At), whole(q.b.At), whole(q.x), whole(q.y)}
	for _, l := range whole(q.grid) {
		out = append(out, whole(l))
	}
	return out
}

// state is what all memory of a question holds.
func state(q question) []float64 {
	out := slices.Concat(lists(q)...)
	for _, v := range whole(q.p) {
		out = append(out, float64(v))
	}
	for _, l := range whole(q.grid) {
		out = append(out, float64(len(l)))
	}
	return out
}

// overwrite spoils all memory of a list.
func overwrite(l []float64) {
	for i := range whole(l) {
		whole(l)[i] = -1234.5
	}
}

// anything is any question: shapes that fit or not, matrices that are good or not.
func anything(r *rand.Rand, name string) question {
	q := fitting(r, name, r.Intn(kinds))
	switch r.Intn(8) {
	case 0:
		q.a.Rows, q.a.Cols = r.Intn(16)-2, r.Intn(16)-2
	case 1:
		q.b.Rows, q.b.Cols = r.Intn(16)-2, r.Intn(16)-2
	case 2:
		q.i, q.j, q.rows, q.cols = int(r.Uint64())>>r.Intn(30), int(r.Uint64())>>r.Intn(30), int(r.Uint64()), int(r.Uint64())>>r.Intn(30)
	case 3:
		unfit := func() float64 { return math.Float64frombits(r.Uint64() | 0x7ff<<52) }
		for _, l := range append([][]float64{q.a.At, q.b.At, q.x, q.y}, q.grid...) {
			if len(l) > 0 && r.Intn(2) == 0 {
				l[r.Intn(len(l))] = unfit()
			}
		}
		if r.Intn(2) == 0 {
			q.s = unfit()
		}
	case 4:
		q.x, q.y = q.a.At, q.b.At
		q.p = append(q.p, r.Intn(20)-3)
	}
	if r.Intn(50) == 0 {
		q.a, q.grid, q.x, q.p = mat(int(r.Uint64()), int(r.Uint64()), q.a.At...), append(q.grid, nil), nil, nil
	}
	return q
}

// P1, P2: whatever comes in, every call ends, says what the words say, and leaves what it was given as it was, the spare room too.
func TestAnythingComesIn(t *testing.T) {
	r := rand.New(rand.NewSource(831))
	wrong := 0
	for _, c := range calls() {
		for range 300 {
			q := copied(anything(r, c.name))
			before := state(q)
			held(t, &wrong, c, q)
			if !sameList(state(q), before) {
				t.Errorf("%s changed what it was given: %+v", c.name, q)
				few(t, &wrong)
			}
		}
	}
}

// P2: an answer is new memory: it shares none with what was handed in, nor with another answer, its spare room neither, and nothing of either is kept.
func TestNewMemory(t *testing.T) {
	r := rand.New(rand.NewSource(832))
	for _, c := range calls() {
		for range 100 {
			q := copied(fitting(r, c.name, 1))
			one, other, want := c.ask(q), c.ask(q), c.want(q)
			before := state(q)
			overwrite(one.m.At)
			overwrite(one.list)
			if !sameList(state(q), before) || !other.is(want) {
				t.Errorf("%s: writing over an answer changed something else", c.name)
			}
			again := copied(q)
			for _, l := range lists(q) {
				overwrite(l)
			}
			if !other.is(want) || !c.ask(again).is(want) {
				t.Errorf("%s: writing over what was given changed an answer", c.name)
			}
		}
	}
}

// Arguments may lie in one memory, the one in the other's spare room.
func TestArgumentsInOneMemory(t *testing.T) {
	room := list(1, 2, 3, 4, 5, 6, 7, 8)
	a, b := mat(2, 2), mat(2, 2)
	a.At, b.At = room[:4], room[4:]
	for _, c := range []told{
		{"Mul", asked(matrix.Mul(a, b)), isMat(2, 2, 19, 22, 43, 50)},
		{"Mul by itself", asked(matrix.Mul(a, a)), isMat(2, 2, 7, 10, 15, 22)},
		{"Add", asked(matrix.Add(a, b)), isMat(2, 2, 6, 8, 10, 12)},
		{"Stack", asked(matrix.Stack(a, b)), isMat(4, 2, 1, 2, 3, 4, 5, 6, 7, 8)},
		{"Stack upon itself", asked(matrix.Stack(a, a)), isMat(4, 2, 1, 2, 3, 4, 1, 2, 3, 4)},
		{"Beside", asked(matrix.Beside(a, b)), isMat(2, 4, 1, 2, 5, 6, 3, 4, 7, 8)},
		{"Sandwich", asked(matrix.Sandwich(a, a)), isMat(2, 2, 27, 59, 59, 133)},
		{"MulVec", askedList(matrix.MulVec(a, room[2:4])), isList(11, 25)},
		{"Of", asked(matrix.Of([][]float64{room[:2], room[1:3]})), isMat(2, 2, 1, 2, 2, 3)},
		{"With", asked(matrix.With(a, 0, 1, 9)), isMat(2, 2, 1, 9, 3, 4)},
	} {
		c.hold(t)
	}
	if !sameList(room, list(1, 2, 3, 4, 5, 6, 7, 8)) {
		t.Errorf("left: %v", room)
	}
}

// P3: nil and empty lists are the same.
func TestNilIsEmpty(t *testing.T) {
	for _, c := range calls() {
		for _, side := range [][2]int{{0, 0}, {0, 3}, {3, 0}, {1, 1}} {
			q := question{a: mat(side[0], side[1]), b: mat(side[1], side[0])}
			full := q
			full.a.At, full.b.At, full.x, full.y, full.p, full.grid = list(), make([]float64, 0, 5), list(), make([]float64, 0, 5), []int{}, [][]float64{}
			q.a.At, q.b.At = nil, nil
			if nothing, empty := c.ask(q), c.ask(full); !nothing.is(empty) || !nothing.is(c.want(q)) {
				t.Errorf("%s: of nil %+v, of an empty list %+v", c.name, nothing, empty)
			}
		}
	}
	if !matrix.Equal(api.Mat{Rows: 2}, api.Mat{Rows: 2, At: list()}) {
		t.Error("Equal tells nil from empty")
	}
}
