package rational_test

import (
	"math"
	"math/rand"
	"slices"
	"testing"

	"binnacle/api"
	"binnacle/rational"
)

// all is a list with its spare room.
func all[T any](l []T) []T { return l[:cap(l)] }

// roomy is a copy of a list with spare room that isn't empty.
func roomy[T any](l []T, spare T) []T {
	return append(slices.Clone(l), spare, spare, spare)[:len(l)]
}

// copied is a question in memory of its own, with spare room.
func copied(q question) question {
	q.a.At, q.b.At = roomy(q.a.At, "77"), roomy(q.b.At, "78")
	q.m.At, q.n.At = roomy(q.m.At, 79), roomy(q.n.At, 80)
	return q
}

// unchanged tells whether a question's memory holds what another one's holds, spare room too.
func unchanged(q, before question) bool {
	return slices.Equal(all(q.a.At), before.a.At) && slices.Equal(all(q.b.At), before.b.At) && slices.EqualFunc(all(q.m.At), before.m.At, sameNumber) && slices.EqualFunc(all(q.n.At), before.n.At, sameNumber)
}

// kept is what a question's memory holds.
func kept(q question) question {
	q.a.At, q.b.At, q.m.At, q.n.At = slices.Clone(all(q.a.At)), slices.Clone(all(q.b.At)), slices.Clone(all(q.m.At)), slices.Clone(all(q.n.At))
	return q
}

func overwrite[T any](l []T, with T) {
	for i := range all(l) {
		all(l)[i] = with
	}
}

// anything is any question: shapes that fit or not, matrices that are good or not, texts that are none.
func anything(r *rand.Rand, name string) question {
	q := copied(fitting(r, name, r.Intn(kinds)))
	bad := noFractions()
	switch r.Intn(8) {
	case 0:
		q.a.Rows, q.a.Cols, q.m.Rows, q.m.Cols, q.size = r.Intn(16)-2, r.Intn(16)-2, r.Intn(16)-2, r.Intn(16)-2, r.Intn(30)-10
	case 1:
		q.a.At, q.m.At = append(q.a.At, "5"), append(q.m.At, 5)
	case 2:
		q.f, q.i, q.x = bad[r.Intn(len(bad))], 0, math.Float64frombits(r.Uint64()|0x7ff<<52)
	case 3:
		q.g, q.k = bad[r.Intn(len(bad))], 0
	case 4:
		if len(q.a.At) > 0 {
			q.a.At[r.Intn(len(q.a.At))] = bad[r.Intn(len(bad))]
		}
		if len(q.m.At) > 0 {
			q.m.At[r.Intn(len(q.m.At))] = math.Float64frombits(r.Uint64() | 0x7ff<<52)
		}
	case 5:
		if len(q.b.At) > 0 {
			q.b.At[r.Intn(len(q.b.At))] = bad[r.Intn(len(bad))]
		}
		q.b.Rows, q.b.Cols, q.n.Rows = q.b.Cols, q.b.Rows, int(r.Uint64())
	case 6:
		text := make([]byte, r.Intn(6))
		for i := range text {
			text[i] = "0123456789-/+ ."[r.Intn(15)]
		}
		q.f, q.size = api.Frac(text), int(r.Uint64())
	}
	if r.Intn(50) == 0 {
		q.a.Rows, q.b.Cols, q.m.Rows = int(r.Uint64()), int(r.Uint64()), int(r.Uint64())
	}
	return q
}

// P1, P2: whatever comes in, every call ends, says what the words say, and leaves what it was given as it was, the spare room too.
func TestAnythingComesIn(t *testing.T) {
	r := rand.New(rand.NewSource(1121))
	wrong := 0
	for _, c := range calls() {
		for range 250 {
			q := copied(anything(r, c.name))
			before := kept(q)
			held(t, &wrong, c, q)
			if !unchanged(q, before) {
				t.Errorf("%s changed what it was given: %+v", c.name, q)
				few(t, &wrong)
			}
		}
	}
}

// P2: an answer is new memory: it shares none with what was handed in, nor with another answer; nothing of either is kept.
func TestNewMemory(t *testing.T) {
	r := rand.New(rand.NewSource(1122))
	for _, c := range calls() {
		for range 40 {
			q := copied(fitting(r, c.name, []int{kindWhole, kindSmall}[r.Intn(2)]))
			one, other, want := c.ask(q), c.ask(q), c.want(q)
			before := kept(q)
			overwrite(one.m.At, "-1234")
			overwrite(one.n.At, -1234)
			if !unchanged(q, before) || !other.as(want) {
				t.Errorf("%s: writing over an answer changed something else", c.name)
			}
			again := copied(q)
			overwrite(q.a.At, "-55")
			overwrite(q.b.At, "-56")
			overwrite(q.m.At, -57)
			overwrite(q.n.At, -58)
			if !other.as(want) || !c.ask(again).as(want) {
				t.Errorf("%s: writing over what was given changed an answer", c.name)
			}
		}
	}
}

// Arguments may lie in one memory, the one in the other's spare room.
func TestArgumentsInOneMemory(t *testing.T) {
	room := []api.Frac{"2", "1/2", "0", "4", "8", "1"}
	a, b := frac(2, 2), frac(2, 1)
	a.At, b.At = room[:4], room[4:]
	isMat(t, "Solve", frac(2, 1, "63/16", "1/4"))(rational.Solve(a, b))
	isMat(t, "Solve of itself", eye(2))(rational.Solve(a, a))
	isMat(t, "MulMat", frac(2, 1, "33/2", "4"))(rational.MulMat(a, b))
	isMat(t, "MulMat by itself", frac(2, 2, "4", "3", "0", "16"))(rational.MulMat(a, a))
	isMat(t, "SubMat of itself", frac(2, 2, "0", "0", "0", "0"))(rational.SubMat(a, a))
	isMat(t, "Scale by one of its own", frac(2, 2, "1", "1/4", "0", "2"))(rational.Scale(a.At[1], a))
	if !slices.Equal(room, []api.Frac{"2", "1/2", "0", "4", "8", "1"}) {
		t.Errorf("left: %v", room)
	}
}

// P3: nil and empty lists are the same.
func TestNilIsEmpty(t *testing.T) {
	for _, c := range matrixCalls() {
		for _, side := range [][2]int{{0, 0}, {0, 3}, {3, 0}, {1, 1}} {
			q := question{f: "1", size: 0, a: frac(side[0], side[1]), b: frac(side[0], side[1]), m: mat(side[0], side[1]), n: mat(side[0], side[1])}
			full := q
			full.a.At, full.b.At, full.m.At, full.n.At = []api.Frac{}, make([]api.Frac, 0, 5), []float64{}, make([]float64, 0, 5)
			if nothing, empty := c.ask(q), c.ask(full); !nothing.as(empty) || !nothing.as(c.want(q)) {
				t.Errorf("%s: of nil %+v, of an empty list %+v", c.name, nothing, empty)
			}
		}
	}
}
