package quat_test

import (
	"math/rand"
	"slices"
	"testing"

	"binnacle/api"
	"binnacle/quat"
)

// roomy is a copy of a matrix with spare room that isn't empty.
func roomy(m api.Mat) api.Mat {
	m.At = append(slices.Clone(m.At), 77, 78, 79)[:len(m.At)]
	return m
}

// all is a list with its spare room.
func all(l []float64) []float64 { return l[:cap(l)] }

func overwrite(l []float64) {
	for i := range all(l) {
		all(l)[i] = -1234.5
	}
}

// anything is any question: numbers that are finite or not, matrices that are good or not.
func anything(r *rand.Rand, name string) question {
	q := fitting(r, name, r.Intn(kinds))
	q.m = roomy(q.m)
	switch r.Intn(4) {
	case 0:
		q.m.Rows, q.m.Cols = r.Intn(16)-2, r.Intn(16)-2
	case 1:
		q.m.At = q.m.At[:r.Intn(13)]
	case 2:
		l := slots(name, &q)
		*l[r.Intn(len(l))] = unfit()[r.Intn(6)]
	}
	if r.Intn(50) == 0 {
		q.m = mat(int(r.Uint64()), int(r.Uint64()), q.m.At...)
	}
	return q
}

// P1, P2: whatever comes in, every call ends, says what the words say, and leaves what it was given as it was, the spare room too.
func TestAnythingComesIn(t *testing.T) {
	r := rand.New(rand.NewSource(1221))
	wrong := 0
	for _, c := range calls() {
		for range 400 {
			q := anything(r, c.name)
			q.m = roomy(q.m)
			before := slices.Clone(all(q.m.At))
			held(t, &wrong, c, q)
			if !sameList(all(q.m.At), before) {
				t.Errorf("%s changed what it was given: %+v", c.name, q)
				few(t, &wrong)
			}
		}
	}
}

// P2: a matrix that is answered is new memory: it shares none with another answer, and nothing of it is kept.
func TestNewMemory(t *testing.T) {
	r := rand.New(rand.NewSource(1222))
	for range 100 {
		q := chanceUnit(r)
		want := wordsOfMatrix(q)
		one, _ := quat.Matrix(q)
		other, _ := quat.Matrix(q)
		overwrite(one.At)
		again, _ := quat.Matrix(q)
		if !sameMat(other, want) || !sameMat(again, want) {
			t.Fatalf("writing over an answer changed another: %v, %v", other, again)
		}
		m := roomy(want)
		back, e := quat.From(m)
		overwrite(m.At)
		if got := saysQuat(back, e); !got.is(wordQuat(func(question) api.Quat { return wordsOfFrom(want) })(question{})) {
			t.Fatalf("writing over what was given changed an answer: %+v", got)
		}
	}
}

// P3: nil and empty lists are the same.
func TestNilIsEmpty(t *testing.T) {
	for _, side := range [][2]int{{0, 0}, {0, 3}, {3, 0}, {3, 3}, {13, 0}} {
		nothing := saysQuat(quat.From(api.Mat{Rows: side[0], Cols: side[1]}))
		empty := saysQuat(quat.From(api.Mat{Rows: side[0], Cols: side[1], At: make([]float64, 0, 9)}))
		if !nothing.is(empty) || nothing.err == api.OK {
			t.Errorf("%v: of nil %+v, of an empty list %+v", side, nothing, empty)
		}
	}
}
