package root_test

import (
	"fmt"
	"math/rand"
	"slices"
	"testing"

	"binnacle/api"
	"binnacle/root"
)

// question is what is handed in; each call takes what it needs.
type question struct {
	s      api.Root
	known  api.State
	f, g   api.Mat
	m      api.Motion
	ticks  int64
	h      []float64
	r, z   float64
	rows   api.Mat
	rs, zs []float64
	x      []float64
}

// answer is all that a call may say. The step of a formula that went over is the oracle's alone.
type answer struct {
	err   api.Errno
	s     api.Root
	known api.State
	x, y  float64
	steps []api.Step
	place int
	step  string
}

func (a answer) is(b answer) bool {
	return a.err == b.err && sameRoot(a.s, b.s) && sameState(a.known, b.known) && sameNumber(a.x, b.x) && sameNumber(a.y, b.y) && slices.EqualFunc(a.steps, b.steps, sameStep) && a.place == b.place
}

func fault(err api.Errno) answer { return answer{err: err} }

// faultAt is the refusal of a row.
func faultAt(place int, err api.Errno) answer { return answer{err: err, place: place} }

func saysRoot(s api.Root, err api.Errno) answer { return answer{s: s, err: err} }

func saysState(s api.State, err api.Errno) answer { return answer{known: s, err: err} }

func saysNumber(x float64, err api.Errno) answer { return answer{x: x, err: err} }

func saysTwo(x, y float64, err api.Errno) answer { return answer{x: x, y: y, err: err} }

func saysRows(s api.Root, steps []api.Step, place int, err api.Errno) answer {
	return answer{s: s, steps: steps, place: place, err: err}
}

// saysStep holds a step of zero value beside an error to be none.
func saysStep(s api.Root, step api.Step, err api.Errno) answer {
	a := answer{s: s, err: err}
	if err == api.OK || !sameStep(step, api.Step{}) {
		a.steps = []api.Step{step}
	}
	return a
}

// call is one of the face's, beside what the chapter's words say of it, and the errors by which it may refuse.
type call struct {
	name       string
	ask, words func(q question) answer
	errs       []api.Errno
}

func errs(l ...api.Errno) []api.Errno { return l }

// checkErrs are the errors of a root that may not be, and more.
func checkErrs(more ...api.Errno) []api.Errno {
	return append(errs(api.ErrRange, api.ErrShape, api.ErrNumber, api.ErrTriangle), more...)
}

// calls are all of the face.
func calls() []call {
	return []call{
		{"Check", func(q question) answer { return fault(root.Check(q.s)) }, func(q question) answer {
			wordsOfCheck(q.s)
			return answer{}
		}, checkErrs()},
		{"Of", func(q question) answer { return saysRoot(root.Of(q.known)) }, func(q question) answer { return answer{s: wordsOfOf(q.known)} },
			errs(api.ErrRange, api.ErrShape, api.ErrNumber, api.ErrCovSym, api.ErrCovPos, api.ErrPositive, api.ErrOver)},
		{"State", func(q question) answer { return saysState(root.State(q.s)) }, func(q question) answer { return answer{known: wordsOfState(q.s)} }, checkErrs(api.ErrCovPos, api.ErrOver)},
		{"Predict", func(q question) answer { return saysRoot(root.Predict(q.s, q.f, q.g)) }, func(q question) answer { return answer{s: wordsOfPredict(q.s, q.f, q.g)} }, checkErrs(api.ErrOver)},
		{"Move", func(q question) answer { return saysRoot(root.Move(q.s, q.m, q.ticks)) }, func(q question) answer { return answer{s: wordsOfMove(q.s, q.m, q.ticks)} }, checkErrs(api.ErrKind, api.ErrNoise, api.ErrLong, api.ErrOver)},
		{"Foresee", func(q question) answer { return saysTwo(root.Foresee(q.s, q.h, q.r)) }, func(q question) answer {
			m, variance := wordsOfForesee(q.s, q.h, q.r)
			return answer{x: m, y: variance}
		}, checkErrs(api.ErrVariance, api.ErrOver)},
		{"Update", func(q question) answer { return saysStep(root.Update(q.s, q.h, q.r, q.z)) }, func(q question) answer {
			s, step := wordsOfUpdate(q.s, q.h, q.r, q.z)
			return answer{s: s, steps: []api.Step{step}}
		}, checkErrs(api.ErrVariance, api.ErrOver)},
		{"Rows", func(q question) answer { return saysRows(root.Rows(q.s, q.rows, q.rs, q.zs)) }, func(q question) answer { return wordsOfRows(q.s, q.rows, q.rs, q.zs) }, checkErrs(api.ErrVariance, api.ErrOver)},
		{"Distance", func(q question) answer { return saysNumber(root.Distance(q.s, q.x)) }, func(q question) answer { return answer{x: wordsOfDistance(q.s, q.x)} }, checkErrs(api.ErrOver)},
		{"Trace", func(q question) answer { return saysNumber(root.Trace(q.s)) }, func(q question) answer { return answer{x: wordsOfTrace(q.s)} }, checkErrs(api.ErrOver)},
	}
}

// callOf is the call of a name.
func callOf(name string) call {
	all := calls()
	return all[slices.IndexFunc(all, func(c call) bool { return c.name == name })]
}

// held asks a call and tells if it doesn't say what the words say; it answers what they say.
func held(t *testing.T, wrong *int, c call, q question) answer {
	t.Helper()
	got, want := c.ask(q), reckoned(func() answer { return c.words(q) })
	if !got.is(want) {
		t.Errorf("%s of %+v:\n got %+v\nwant %+v", c.name, q, got, want)
		few(t, wrong)
	}
	return want
}

// anyQuestion is one of each sort: what goes together, and what doesn't.
func anyQuestion(r *rand.Rand) question {
	q := question{s: anyRoot(r), known: anyState(r)}
	n := len(q.s.X)
	q.f, q.g = anyMove(r, n)
	q.m, q.ticks = anyMotion(r, n), anyTicks(r)
	q.h, q.r, q.z = anyRow(r, n), anyVariance(r), anyValue(r)
	q.rows, q.rs, q.zs = anyRows(r, n)
	q.x = place(r, n)
	if r.Intn(8) == 0 {
		spoilList(r, &q.x)
	}
	return q
}

// fitQuestion is one in which nothing is wrong by itself, though steps may go over.
func fitQuestion(r *rand.Rand, kind, n int) question {
	q := question{s: fitRoot(r, kind, n), known: fitState(r, n), m: moving(r, n), ticks: oneOf(r, 0, 1, second, r.Int63n(end)>>r.Intn(50)), x: place(r, n)}
	q.f, q.g = fitMove(r, n)
	q.h, q.r, q.z = fitRow(r, n), fitVariance(r), oneOf(r, anyFinite(r), r.NormFloat64())
	if r.Intn(2) == 0 {
		q.h, q.r = keenRow(r, q.s.L)
	}
	q.rows = mat(r.Intn(5), n)
	for range q.rows.Rows {
		h, variance := keenRow(r, q.s.L)
		if r.Intn(2) == 0 {
			h, variance = fitRow(r, n), oneOf(r, 1, between(r, -4, 4), fitVariance(r))
		}
		q.rows.At, q.rs = append(q.rows.At, h...), append(q.rs, variance)
		q.zs = append(q.zs, oneOf(r, r.NormFloat64(), anyFinite(r)))
	}
	return q
}

// P16.1 to P16.6: all calls, whatever chance brings, bit by bit; each must have been answered, and refused in each of its ways, often enough, and in no other.
func TestByTheWords(t *testing.T) {
	r := rand.New(rand.NewSource(161))
	wrong := 0
	came := map[string]map[api.Errno]int{}
	for range 12000 {
		q := anyQuestion(r)
		for _, c := range calls() {
			if came[c.name] == nil {
				came[c.name] = map[api.Errno]int{}
			}
			came[c.name][held(t, &wrong, c, q).err]++
		}
	}
	for _, c := range calls() {
		for _, err := range append(errs(api.OK), c.errs...) {
			enough(t, fmt.Sprintf("%s, error %d", c.name, err), came[c.name][err], 20)
			delete(came[c.name], err)
		}
		if len(came[c.name]) > 0 {
			t.Errorf("%s: refused by %v", c.name, came[c.name])
		}
	}
}

// P16.1 to P16.6: roots of each kind and each size, and what goes with them: what is answered, and what the formulas refuse.
func TestFormulas(t *testing.T) {
	r := rand.New(rand.NewSource(162))
	wrong := 0
	var answered [kinds]map[string]int
	refused := map[string]map[api.Errno]int{}
	for _, c := range calls() {
		refused[c.name] = map[api.Errno]int{}
	}
	for kind := range kinds {
		answered[kind] = map[string]int{}
		for n := range api.MaxDim + 1 {
			for range 30 {
				q := fitQuestion(r, kind, n)
				for _, c := range calls() {
					err := held(t, &wrong, c, q).err
					refused[c.name][err]++
					if err == api.OK {
						answered[kind][c.name]++
					}
				}
			}
		}
	}
	for kind, names := range answered {
		for _, c := range calls() {
			// A square that overflows or falls to 0 has no state.
			beyond := c.name == "State" && (kind == kindFar || kind == kindLeast) || c.name == "Trace" && kind == kindFar
			if names[c.name] < 20 && !beyond {
				t.Errorf("kind %d: %s answered only %d times", kind, c.name, names[c.name])
			}
		}
	}
	for _, name := range []string{"Predict", "Move", "Update", "Rows"} {
		enough(t, name+", a triangle refused", refused[name][api.ErrTriangle], 20)
	}
	for _, name := range []string{"State", "Predict", "Move", "Foresee", "Update", "Rows", "Distance", "Trace"} {
		enough(t, name+", over", refused[name][api.ErrOver], 20)
	}
	enough(t, "State, refused", refused["State"][api.ErrCovPos], 200)
}

// What the oracle asks of a covariance is what its determinants say.
func TestOracle(t *testing.T) {
	for _, c := range []struct {
		m  api.Mat
		is bool
	}{
		{square(), true}, {square(least), true}, {square(0), false}, {square(-1), false}, {square(2, 1, 1, 2), true}, {square(1, 2, 2, 1), false},
		{square(1, 1, 1, 1), false}, {square(1, 1, 1, 1+0x1p-52), true}, {square(most, 0, 0, least), true}, {square(0, 0, 0, 1), false},
		{square(2, -1, 0, -1, 2, -1, 0, -1, 2), true}, {square(1, 1, 1, 1, 2, 2, 1, 2, 2), false}, {square(2, -1, -1, -1, 2, -1, -1, -1, 2), false},
	} {
		if isPositiveMat(c.m) != c.is {
			t.Errorf("%v", c.m)
		}
	}
}
