package chol_test

import (
	"math"
	"math/rand"
	"testing"

	"binnacle/api"
	"binnacle/chol"
)

// call is one of the face's calls, beside what the chapter says of it.
type call struct {
	name      string
	ask, want func(q question) answer
}

func askChol(a api.Mat) answer {
	l, place, e := chol.Chol(a)
	return answer{m: l, place: place, err: e}
}

func askLDL(a api.Mat) answer {
	l, d, place, e := chol.LDL(a)
	return answer{m: l, list: d, place: place, err: e}
}

func askLower(l api.Mat, b []float64) answer {
	x, e := chol.Lower(l, b)
	return answer{list: x, err: e}
}

func askUpper(l api.Mat, b []float64) answer {
	x, e := chol.Upper(l, b)
	return answer{list: x, err: e}
}

func askSolve(a api.Mat, b []float64) answer {
	x, place, e := chol.Solve(a, b)
	return answer{list: x, place: place, err: e}
}

func askSolveMat(a, b api.Mat) answer {
	x, place, e := chol.SolveMat(a, b)
	return answer{m: x, place: place, err: e}
}

func askInverse(a api.Mat) answer {
	x, place, e := chol.Inverse(a)
	return answer{m: x, place: place, err: e}
}

func askDet(a api.Mat) answer {
	x, place, e := chol.Det(a)
	return answer{x: x, place: place, err: e}
}

func askSquare(l api.Mat) answer {
	m, e := chol.Square(l)
	return answer{m: m, err: e}
}

func askPivots(a api.Mat) answer {
	d, place, e := chol.Pivots(a)
	return answer{spans: d, place: place, err: e}
}

func askVerified(a api.Mat) answer {
	yes, e := chol.Verified(a)
	return answer{yes: yes, err: e}
}

// reckon turns a word into an answer.
func reckon(of func(q question) answer) func(q question) answer {
	return func(q question) answer { return reckoned(func() answer { return of(q) }) }
}

// calls are all of the face.
func calls() []call {
	return []call{
		{"Chol", func(q question) answer { return askChol(q.a) }, reckon(func(q question) answer { return answer{m: wordsOfChol(q.a)} })},
		{"LDL", func(q question) answer { return askLDL(q.a) }, reckon(func(q question) answer {
			l, d := wordsOfLDL(q.a)
			return answer{m: l, list: d}
		})},
		{"Lower", func(q question) answer { return askLower(q.a, q.x) }, reckon(func(q question) answer { return answer{list: wordsOfLower(q.a, q.x)} })},
		{"Upper", func(q question) answer { return askUpper(q.a, q.x) }, reckon(func(q question) answer { return answer{list: wordsOfUpper(q.a, q.x)} })},
		{"Solve", func(q question) answer { return askSolve(q.a, q.x) }, reckon(func(q question) answer { return answer{list: wordsOfSolve(q.a, q.x)} })},
		{"SolveMat", func(q question) answer { return askSolveMat(q.a, q.b) }, reckon(func(q question) answer { return answer{m: wordsOfSolveMat(q.a, q.b)} })},
		{"Inverse", func(q question) answer { return askInverse(q.a) }, reckon(func(q question) answer { return answer{m: wordsOfInverse(q.a)} })},
		{"Det", func(q question) answer { return askDet(q.a) }, reckon(func(q question) answer { return answer{x: wordsOfDet(q.a)} })},
		{"Square", func(q question) answer { return askSquare(q.a) }, reckon(func(q question) answer { return answer{m: wordsOfSquare(q.a)} })},
		{"Pivots", func(q question) answer { return askPivots(q.a) }, reckon(func(q question) answer { return answer{spans: wordsOfPivots(q.a)} })},
		{"Verified", func(q question) answer { return askVerified(q.a) }, reckon(func(q question) answer { return answer{yes: wordsOfVerified(q.a)} })},
	}
}

// ofRoots tells whether a call takes a root triangle.
func ofRoots(name string) bool { return name == "Lower" || name == "Upper" || name == "Square" }

// held asks a call and holds what it says against the chapter's words.
func held(t *testing.T, wrong *int, c call, q question) answer {
	t.Helper()
	got, want := c.ask(q), c.want(q)
	if !got.is(want) {
		t.Errorf("%s of %+v:\n got %+v\nwant %+v", c.name, q, got, want)
		few(t, wrong)
	}
	return got
}

// fitting is a question of a kind in which all goes together.
func fitting(r *rand.Rand, name string, kind int) question {
	n := chanceSide(r)
	q := question{a: chanceSymmetric(r, kind, n), b: chanceMat(r, kind, n, chanceSide(r)), x: chanceList(r, kind, n)}
	if ofRoots(name) {
		q.a = chanceTriangle(r, kind, n)
	}
	return q
}

// P9.1 to P9.8: all calls, of all kinds of numbers, bit by bit; every call must have been answered, and refused in each of its ways, often enough.
func TestByTheWords(t *testing.T) {
	r := rand.New(rand.NewSource(91))
	wrong := 0
	for _, c := range calls() {
		count := map[api.Errno]int{}
		for kind := range kinds {
			answered := 0
			for range 80 {
				got := held(t, &wrong, c, fitting(r, c.name, kind))
				if count[got.err]++; got.err == api.OK {
					answered++
				}
			}
			if answered < 12 {
				t.Errorf("%s, kind %d: answered only %d times", c.name, kind, answered)
			}
		}
		for _, e := range refusals(c.name) {
			if count[e] < 10 {
				t.Errorf("%s: error %d only %d times", c.name, e, count[e])
			}
		}
	}
}

// refusals are the errors that a call has for matrices that are as it asks for.
func refusals(name string) []api.Errno {
	switch {
	case name == "Verified":
		return nil
	case name == "Pivots":
		return []api.Errno{api.ErrPivot}
	case name == "LDL":
		return []api.Errno{api.ErrPivot, api.ErrOver}
	case ofRoots(name):
		return []api.Errno{api.ErrOver}
	}
	return []api.Errno{api.ErrPositive, api.ErrOver}
}

// What the oracle reckons in fractions is what the machine's single steps are, so that it may be trusted with more of them.
func TestOracle(t *testing.T) {
	stopped := func(of func() float64) float64 {
		a := reckoned(func() answer { return answer{x: of()} })
		if a.err != api.OK {
			return inf
		}
		return a.x
	}
	orInf := func(x float64) float64 {
		if isFinite(x) {
			return x
		}
		return inf
	}
	for _, x := range numbers() {
		for _, y := range numbers() {
			got := list(stopped(func() float64 { return less(x, y) }), stopped(func() float64 { return plus(x, y) }), stopped(func() float64 { return times(x, y) }))
			want := list(orInf(x-y), orInf(x+y), orInf(x*y))
			if y != 0 {
				got, want = append(got, stopped(func() float64 { return over(x, y) })), append(want, orInf(x/y))
			}
			if !sameList(got, want) {
				t.Errorf("%x and %x: %x, not %x", x, y, got, want)
			}
		}
		if x > 0 && root(x) != math.Sqrt(x) {
			t.Errorf("the root of %x: %x", x, root(x))
		}
	}
}
