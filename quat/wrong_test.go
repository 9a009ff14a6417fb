package quat_test

import (
	"math"
	"math/rand"
	"testing"

	"binnacle/api"
	"binnacle/quat"
)

// slots are the numbers that a call takes, one by one.
func slots(name string, q *question) []*float64 {
	quats, vecs, matrix, number := takes(name)
	all := []*float64{&q.a.W, &q.a.X, &q.a.Y, &q.a.Z, &q.b.W, &q.b.X, &q.b.Y, &q.b.Z}
	out := all[:4*quats]
	// Turn takes a vector behind a quaternion, as v; other calls take v and w.
	all = []*float64{&q.v[0], &q.v[1], &q.v[2], &q.w[0], &q.w[1], &q.w[2]}
	out = append(out[:len(out):len(out)], all[:3*vecs]...)
	if matrix {
		for i := range q.m.At {
			out = append(out, &q.m.At[i])
		}
	}
	if number {
		out = append(out, &q.t)
	}
	return out
}

// filled is a question that has one number everywhere.
func filled(x float64) question {
	q := question{a: quatOf(x, x, x, x), b: quatOf(x, x, x, x), v: vec(x, x, x), w: vec(x, x, x), m: mat(3, 3), t: x}
	for range 9 {
		q.m.At = append(q.m.At, x)
	}
	return q
}

// refusing asks a call, and tells if it doesn't refuse as it should; Good has no errors.
func refusing(t *testing.T, wrong *int, c call, q question, err api.Errno) {
	t.Helper()
	want := fault(err)
	if c.name == "Good" {
		want = answer{}
	}
	if got := c.ask(q); !got.is(want) {
		t.Errorf("%s of %+v: %+v, not error %d", c.name, q, got, err)
		few(t, wrong)
	}
}

// A number that isn't finite, in each place of each argument, alone or with another one, ahead of all that is 0 or beyond: ErrNumber.
func TestEachPlace(t *testing.T) {
	r := rand.New(rand.NewSource(124))
	wrong, asked := 0, 0
	for _, c := range calls() {
		any := filled(0)
		for _, x := range unfit() {
			for _, y := range []float64{0, minus, 1, -0.5, most, -most, least, 0x1p600, inf, nan} {
				for place := range slots(c.name, &any) {
					q := filled(y)
					*slots(c.name, &q)[place] = x
					refusing(t, &wrong, c, q, api.ErrNumber)
					asked++
				}
			}
		}
		for range 300 {
			q := fitting(r, c.name, r.Intn(kinds))
			all := slots(c.name, &q)
			*all[r.Intn(len(all))] = math.Float64frombits(r.Uint64() | 0x7ff<<52)
			refusing(t, &wrong, c, q, api.ErrNumber)
		}
	}
	// All calls take 100 numbers together.
	if asked != 100*6*10 {
		t.Errorf("asked %d times", asked)
	}
}

// What a call doesn't take, it doesn't look at.
func TestNothingElse(t *testing.T) {
	for _, c := range calls() {
		q := filled(nan)
		for _, slot := range slots(c.name, &q) {
			*slot = 0.5
		}
		if q.m.At[0] != 0.5 {
			q.m = mat(-1, -1)
		}
		if got := c.ask(q); got.err != api.OK || c.name == "Good" && !got.yes {
			t.Errorf("%s: %+v", c.name, got)
		}
	}
}

// P8, then 3 by 3: matrices that are wrong in one way or in several.
func TestSpoiltMatrices(t *testing.T) {
	for _, c := range spoiltMats() {
		if got := saysQuat(quat.From(c.m)); !got.is(fault(c.err)) {
			t.Errorf("From of %v: %+v, not error %d", c.m, got, c.err)
		}
		if got := reckoned(func() answer { return answer{q: wordsOfFrom(c.m)} }); !got.is(fault(c.err)) {
			t.Errorf("by the words, From of %v: %+v, not error %d", c.m, got, c.err)
		}
	}
	if got := saysQuat(quat.From(api.Mat{})); !got.is(fault(api.ErrShape)) {
		t.Errorf("From of nothing: %+v", got)
	}
}

// P4: whatever is wrong, in one argument or in several, in one way or in several: the words' first error, with zero values beside it.
func TestWhateverIsWrong(t *testing.T) {
	wrong := 0
	some := []float64{0, minus, 1, -2, 0x1p600, most, nan, -inf}
	for _, c := range calls() {
		for _, x := range some {
			for _, y := range some {
				for _, z := range some {
					q := question{a: quatOf(x, y, x, 0), b: quatOf(y, z, minus, x), v: vec(x, y, z), w: vec(z, minus, y), m: the3(x, 1, y, z, 0, x, 1, 0, y), t: z}
					held(t, &wrong, c, q)
				}
			}
		}
	}
}

// Two faults at once, one by one.
func TestTwoFaults(t *testing.T) {
	one, none, great := quatOf(1, 0, 0, 0), quatOf(0, 0, 0, 0), quatOf(0x1p600, 0, 0, 0)
	spoiltQuat, spoiltVec := quatOf(0, 0, 0, nan), vec(0, 0, inf)
	hold(t,
		told{"Unit of noughts and a NaN", askUnit(0, 0, nan, 0), fault(api.ErrNumber)},
		told{"Join of noughts and a NaN", askJoin(none, spoiltQuat), fault(api.ErrNumber)},
		told{"Join, beyond, of noughts in W", askJoin(quatOf(0, 0x1p600, 0, 0), quatOf(0, 0, 0x1p600, 0)), fault(api.ErrOver)},
		told{"Between of noughts and an infinity", askBetween(vec(0, 0, 0), spoiltVec), fault(api.ErrNumber)},
		told{"Between of an infinity and noughts", askBetween(spoiltVec, vec(0, 0, 0)), fault(api.ErrNumber)},
		told{"Between of one beyond and an infinity", askBetween(vec(most, most, most), spoiltVec), fault(api.ErrNumber)},
		told{"Between of noughts and one beyond", askBetween(vec(0, 0, 0), vec(most, most, most)), fault(api.ErrZero)},
		told{"Gibbs of W 0 and a NaN", askGibbs(0, 1, 1, nan), fault(api.ErrNumber)},
		told{"Gibbs of W 0 and others beyond", askGibbs(minus, most, 1, 1), fault(api.ErrZero)},
		told{"Mix of a Dot beyond and a t that is none", askMix(great, great, nan), fault(api.ErrNumber)},
		told{"Mix of a Dot beyond, and noughts by t", askMix(great, great, 0x1p60), fault(api.ErrOver)},
		told{"Mix of noughts and a t that is none", askMix(none, none, inf), fault(api.ErrNumber)},
		told{"Mix of a NaN, and t that is none", askMix(one, spoiltQuat, -inf), fault(api.ErrNumber)},
		told{"Apart of one beyond and a NaN", askApart(great, quatOf(0x1p600, 0, nan, 0)), fault(api.ErrNumber)},
		told{"Nearest of one beyond and a NaN", askNearest(great, quatOf(0x1p600, 0, 0, nan)), fault(api.ErrNumber)},
		told{"Turn of one beyond and a NaN", askTurn(great, most, most, nan), fault(api.ErrNumber)},
		told{"From, t beyond, and a NaN", askFrom(most, nan, 0, 0, most, 0, 0, 0, most), fault(api.ErrNumber)},
		told{"From, t beyond, not 3 by 3", saysQuat(quat.From(mat(2, 2, most, 0, 0, most))), fault(api.ErrShape)},
	)
}
