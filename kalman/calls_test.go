package kalman_test

import (
	"fmt"
	"math/rand"
	"slices"
	"testing"

	"binnacle/api"
	"binnacle/kalman"
)

// question is what is handed in; each call takes what it needs.
type question struct {
	s      api.State
	f, q   api.Mat
	m      api.Motion
	ticks  int64
	h      []float64
	r, z   float64
	rows   api.Mat
	rs, zs []float64
}

// answer is all that a call may say. The step of a formula that went over is the oracle's alone.
type answer struct {
	err   api.Errno
	s     api.State
	x, y  float64
	steps []api.Step
	place int
	step  string
}

func (a answer) is(b answer) bool {
	return a.err == b.err && sameState(a.s, b.s) && sameNumber(a.x, b.x) && sameNumber(a.y, b.y) && slices.EqualFunc(a.steps, b.steps, sameStep) && a.place == b.place
}

func fault(err api.Errno) answer { return answer{err: err} }

// faultAt is the refusal of a row.
func faultAt(place int, err api.Errno) answer { return answer{err: err, place: place} }

func saysState(s api.State, err api.Errno) answer { return answer{s: s, err: err} }

func saysNumber(x float64, err api.Errno) answer { return answer{x: x, err: err} }

func saysTwo(x, y float64, err api.Errno) answer { return answer{x: x, y: y, err: err} }

func saysRows(s api.State, steps []api.Step, place int, err api.Errno) answer {
	return answer{s: s, steps: steps, place: place, err: err}
}

// saysStep holds a step of zero value beside an error to be none.
func saysStep(s api.State, step api.Step, err api.Errno) answer {
	a := answer{s: s, err: err}
	if err == api.OK || !sameStep(step, api.Step{}) {
		a.steps = []api.Step{step}
	}
	return a
}

// call is one of the face's, beside what the chapter's words say of it, and the errors by which it may refuse.
type call struct {
	name       string
	ask, words func(q question) answer
	errs       []api.Errno
}

func errs(l ...api.Errno) []api.Errno { return l }

func update(q question, short bool) answer {
	return saysStep2(wordsOfUpdate(q.s, q.h, q.r, q.z, short))
}

func saysStep2(s api.State, step api.Step) answer { return saysStep(s, step, api.OK) }

// calls are all of the face.
func calls() []call {
	check := errs(api.ErrRange, api.ErrShape, api.ErrNumber, api.ErrCovSym, api.ErrCovPos)
	row := append(slices.Clip(check), api.ErrVariance, api.ErrInnovation, api.ErrOver)
	return []call{
		{"Check", func(q question) answer { return fault(kalman.Check(q.s)) }, func(q question) answer {
			wordsOfCheck(q.s)
			return answer{}
		}, check},
		{"Predict", func(q question) answer { return saysState(kalman.Predict(q.s, q.f, q.q)) }, func(q question) answer { return answer{s: wordsOfPredict(q.s, q.f, q.q)} }, append(slices.Clip(check), api.ErrOver)},
		{"Move", func(q question) answer { return saysState(kalman.Move(q.s, q.m, q.ticks)) }, func(q question) answer { return answer{s: wordsOfMove(q.s, q.m, q.ticks)} }, append(slices.Clip(check), api.ErrKind, api.ErrNoise, api.ErrLong, api.ErrOver)},
		{"Foresee", func(q question) answer { return saysTwo(kalman.Foresee(q.s, q.h, q.r)) }, func(q question) answer { return saysTwo2(wordsOfForesee(q.s, q.h, q.r)) }, row},
		{"Update", func(q question) answer { return saysStep(kalman.Update(q.s, q.h, q.r, q.z)) }, func(q question) answer { return update(q, false) }, row},
		{"Short", func(q question) answer { return saysStep(kalman.Short(q.s, q.h, q.r, q.z)) }, func(q question) answer { return update(q, true) }, row},
		{"Rows", func(q question) answer { return saysRows(kalman.Rows(q.s, q.rows, q.rs, q.zs)) }, func(q question) answer { return wordsOfRows(q.s, q.rows, q.rs, q.zs) }, row},
		{"Trace", func(q question) answer { return saysNumber(kalman.Trace(q.s)) }, func(q question) answer { return answer{x: wordsOfTrace(q.s)} }, append(slices.Clip(check), api.ErrOver)},
	}
}

func saysTwo2(x, y float64) answer { return answer{x: x, y: y} }

// callOf is the call of a name.
func callOf(name string) call {
	all := calls()
	return all[slices.IndexFunc(all, func(c call) bool { return c.name == name })]
}

// held asks a call and tells if it doesn't say what the words say; it answers what they say.
func held(t *testing.T, wrong *int, c call, q question) answer {
	t.Helper()
	got, want := c.ask(q), reckoned(func() answer { return c.words(q) })
	if !got.is(want) {
		t.Errorf("%s of %+v:\n got %+v\nwant %+v", c.name, q, got, want)
		few(t, wrong)
	}
	return want
}

// anyQuestion is one of each sort: what goes together, and what doesn't.
func anyQuestion(r *rand.Rand) question {
	q := question{s: anyState(r)}
	q.f, q.q = anyMove(r, len(q.s.X))
	q.m, q.ticks = anyMotion(r, len(q.s.X)), anyTicks(r)
	q.h, q.r, q.z = anyRow(r, q.s), anyVariance(r), anyValue(r)
	q.rows, q.rs, q.zs = anyRows(r, q.s)
	if r.Intn(40) == 0 {
		low, h, less := lowest(anyFinite(r), anyFinite(r))
		q.s, q.h, q.r = low, h, oneOf(r, less, less/2, 2*less, least, 1)
		q.rows, q.rs, q.zs = mat(2, 2, 0, 0, h[0], h[1]), list(1, q.r), list(1, 2)
	}
	return q
}

// fitQuestion is one in which nothing is wrong by itself, though steps may go over.
func fitQuestion(r *rand.Rand, kind, n int) question {
	q := question{s: fitState(r, kind, n), m: moving(r, n), ticks: oneOf(r, 0, 1, second, r.Int63n(end)>>r.Intn(50))}
	q.f, q.q = fitMove(r, n)
	q.h, q.r, q.z = fitRow(r, n), fitVariance(r), oneOf(r, anyFinite(r), r.NormFloat64())
	if r.Intn(4) == 0 {
		q.h = blindRow(r, q.s)
	}
	q.rows = mat(r.Intn(5), n)
	for range q.rows.Rows {
		q.rows.At = append(q.rows.At, fitRow(r, n)...)
		q.rs = append(q.rs, oneOf(r, 1, between(r, -4, 4), fitVariance(r)))
		q.zs = append(q.zs, oneOf(r, r.NormFloat64(), anyFinite(r)))
	}
	return q
}

// P15.1 to P15.8: all calls, whatever chance brings, bit by bit; each must have been answered, and refused in each of its ways, often enough, and in no other.
func TestByTheWords(t *testing.T) {
	r := rand.New(rand.NewSource(151))
	wrong := 0
	came := map[string]map[api.Errno]int{}
	for range 9000 {
		q := anyQuestion(r)
		for _, c := range calls() {
			if came[c.name] == nil {
				came[c.name] = map[api.Errno]int{}
			}
			came[c.name][held(t, &wrong, c, q).err]++
		}
	}
	for _, c := range calls() {
		for _, err := range append(errs(api.OK), c.errs...) {
			enough(t, fmt.Sprintf("%s, error %d", c.name, err), came[c.name][err], 20)
			delete(came[c.name], err)
		}
		if len(came[c.name]) > 0 {
			t.Errorf("%s: refused by %v", c.name, came[c.name])
		}
	}
}

// P15.2 to P15.7: states of each kind and each size, and what goes with them: what is answered, and what the formulas refuse.
func TestFormulas(t *testing.T) {
	r := rand.New(rand.NewSource(152))
	wrong := 0
	var answered [kinds]map[string]int
	for kind := range kinds {
		answered[kind] = map[string]int{}
		for n := range api.MaxDim + 1 {
			for range 20 {
				q := fitQuestion(r, kind, n)
				for _, c := range calls() {
					if held(t, &wrong, c, q).err == api.OK {
						answered[kind][c.name]++
					}
				}
			}
		}
	}
	for kind, names := range answered {
		for _, c := range calls() {
			if names[c.name] < 10 {
				t.Errorf("kind %d: %s answered only %d times", kind, c.name, names[c.name])
			}
		}
	}
}

// What the oracle asks of a covariance is what its determinants say.
func TestOracle(t *testing.T) {
	for _, c := range []struct {
		m  api.Mat
		is bool
	}{
		{square(), true}, {square(least), true}, {square(0), false}, {square(-1), false}, {square(2, 1, 1, 2), true}, {square(1, 2, 2, 1), false},
		{square(1, 1, 1, 1), false}, {square(1, 1, 1, 1+0x1p-52), true}, {square(most, 0, 0, least), true}, {square(0, 0, 0, 1), false},
		{square(2, -1, 0, -1, 2, -1, 0, -1, 2), true}, {square(1, 1, 1, 1, 2, 2, 1, 2, 2), false}, {square(2, -1, -1, -1, 2, -1, -1, -1, 2), false},
	} {
		if isPositive(c.m) != c.is {
			t.Errorf("%v", c.m)
		}
	}
}
