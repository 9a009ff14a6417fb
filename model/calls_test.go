package model_test

import (
	"math"
	"math/rand"
	"slices"
	"testing"

	"binnacle/api"
	"binnacle/model"
)

// question is what is handed in; each call takes what it needs.
type question struct {
	m                 api.Motion
	ticks             int64
	s                 api.Sensor
	dim               int
	x                 []float64
	part, axis, order int
	places            []int
}

// answer is all that a call may say.
type answer struct {
	err   api.Errno
	n     int
	x     float64
	l     []float64
	names []string
	m     api.Mat
}

func (a answer) is(b answer) bool {
	return a.err == b.err && a.n == b.n && sameNumber(a.x, b.x) && sameList(a.l, b.l) && slices.Equal(a.names, b.names) && sameMat(a.m, b.m)
}

func fault(err api.Errno) answer { return answer{err: err} }

func saysNumber(x float64, err api.Errno) answer { return answer{x: x, err: err} }

func saysCount(n int, err api.Errno) answer { return answer{n: n, err: err} }

func saysList(l []float64, err api.Errno) answer { return answer{l: l, err: err} }

func saysNames(l []string, err api.Errno) answer { return answer{names: l, err: err} }

func saysMat(m api.Mat, err api.Errno) answer { return answer{m: m, err: err} }

// call is one of the face's, beside what the chapter's words say of it, and the errors by which it may refuse.
type call struct {
	name       string
	ask, words func(q question) answer
	errs       []api.Errno
}

func errs(l ...api.Errno) []api.Errno { return l }

// calls are all of the face.
func calls() []call {
	motions := errs(api.ErrRange, api.ErrLong, api.ErrNumber, api.ErrKind, api.ErrNoise)
	sensors := errs(api.ErrRange, api.ErrShape, api.ErrNumber, api.ErrNoise)
	return []call{
		{"Seconds", func(q question) answer { return saysNumber(model.Seconds(q.ticks)) }, func(q question) answer { return answer{x: wordsOfSeconds(q.ticks)} }, errs(api.ErrRange)},
		{"Check", func(q question) answer { return fault(model.Check(q.m)) }, func(q question) answer {
			checked(q.m)
			return answer{}
		}, motions},
		{"Dim", func(q question) answer { return saysCount(model.Dim(q.m)) }, func(q question) answer { return answer{n: len(checked(q.m))} }, motions},
		{"Names", func(q question) answer { return saysNames(model.Names(q.m)) }, func(q question) answer { return answer{names: wordsOfNames(q.m)} }, motions},
		{"F", func(q question) answer { return saysMat(model.F(q.m, q.ticks)) }, func(q question) answer { return answer{m: wordsOfMat(q.m, q.ticks, entryOfF)} }, motions},
		{"Q", func(q question) answer { return saysMat(model.Q(q.m, q.ticks)) }, func(q question) answer { return answer{m: wordsOfMat(q.m, q.ticks, entryOfQ)} }, motions},
		{"G", func(q question) answer { return saysMat(model.G(q.m, q.ticks)) }, func(q question) answer { return answer{m: wordsOfMat(q.m, q.ticks, entryOfG)} }, motions},
		{"CheckSensor", func(q question) answer { return fault(model.CheckSensor(q.s, q.dim)) }, func(q question) answer {
			wordsOfSensor(q.s, q.dim)
			return answer{}
		}, sensors},
		{"Sees", func(q question) answer { return saysList(model.Sees(q.s, q.x)) }, func(q question) answer { return answer{l: wordsOfSees(q.s, q.x)} }, append(sensors, api.ErrOver)},
		{"Place", func(q question) answer { return saysCount(model.Place(q.m, q.part, q.axis, q.order)) }, func(q question) answer { return answer{n: wordsOfPlace(q.m, q.part, q.axis, q.order)} }, motions},
		{"Picks", func(q question) answer { return saysMat(model.Picks(q.m, q.places)) }, func(q question) answer { return answer{m: wordsOfPicks(q.m, q.places)} }, motions},
	}
}

// held asks a call and tells if it doesn't say what the words say; it answers what they say.
func held(t *testing.T, wrong *int, c call, q question) answer {
	t.Helper()
	got, want := c.ask(q), reckoned(func() answer { return c.words(q) })
	if !got.is(want) {
		t.Errorf("%s of %+v:\n got %+v\nwant %+v", c.name, q, got, want)
		few(t, wrong)
	}
	return want
}

// anyQuestion is one of each sort: what goes together, and what doesn't.
func anyQuestion(r *rand.Rand) question {
	q := question{m: anyMotion(r), ticks: anyTicks(r), dim: r.Intn(13)}
	if r.Intn(20) == 0 {
		q.dim = oneOf(r, -1, 13, math.MaxInt, math.MinInt)
	}
	q.s = anySensor(r, q.dim)
	for range max(0, min(q.dim, 13)) {
		q.x = append(q.x, oneOf(r, anyFinite(r), between(r, -4, 4)))
	}
	if len(q.x) > 0 && r.Intn(6) == 0 {
		q.x[r.Intn(len(q.x))] = oneOf(r, unfit()...)
	}
	if r.Intn(6) == 0 {
		q.dim += oneOf(r, -1, 1)
		q.x = append(q.x, 1)
	}
	q.part, q.axis, q.order = r.Intn(4)-1, r.Intn(5)-1, r.Intn(5)-1
	if r.Intn(3) > 0 {
		q.part, q.axis, q.order = 0, 0, r.Intn(2)
	}
	q.places = anyPlaces(r, 1+r.Intn(12))
	return q
}

// P14.1 to P14.7: all calls, whatever chance brings, bit by bit; each must have been answered, and refused in each of its ways, often enough, and in no other.
func TestByTheWords(t *testing.T) {
	r := rand.New(rand.NewSource(141))
	wrong := 0
	for _, c := range calls() {
		came := map[api.Errno]int{}
		for range 6000 {
			came[held(t, &wrong, c, anyQuestion(r)).err]++
		}
		for _, err := range append(errs(api.OK), c.errs...) {
			enough(t, c.name, came[err], 60)
			delete(came, err)
		}
		if len(came) > 0 {
			t.Errorf("%s: refused by %v", c.name, came)
		}
	}
}

// P14.3 to P14.5: motions and ticks that may be, with nothing wrong: all that the formulas say.
func TestFormulas(t *testing.T) {
	r := rand.New(rand.NewSource(1413))
	wrong := 0
	kinds := map[int]int{}
	for range 4000 {
		q := question{m: fitMotion(r), ticks: fitTicks(r)}
		for _, p := range q.m.Parts {
			kinds[p.Kind]++
		}
		for _, c := range calls()[4:7] {
			if held(t, &wrong, c, q).err != api.OK {
				t.Fatalf("%s of %+v is refused", c.name, q)
			}
		}
	}
	for _, kind := range anyKinds() {
		enough(t, "a kind", kinds[kind], 1000)
	}
}

// P14.2: what is divided is rounded once.
func TestSecondsByTheWords(t *testing.T) {
	r := rand.New(rand.NewSource(1412))
	wrong := 0
	for range 20000 {
		n := fitTicks(r)
		held(t, &wrong, calls()[0], question{ticks: n})
		held(t, &wrong, calls()[0], question{ticks: -n})
	}
}

// P14.6: rows that are seen, in order, each step rounded.
func TestSeesByTheWords(t *testing.T) {
	r := rand.New(rand.NewSource(1416))
	wrong, over := 0, 0
	for range 4000 {
		q := question{dim: r.Intn(13)}
		q.s = fitSensor(r, q.dim)
		for range q.dim {
			q.x = append(q.x, oneOf(r, anyFinite(r), between(r, -4, 4)))
		}
		if held(t, &wrong, calls()[8], q).err == api.ErrOver {
			over++
		}
	}
	enough(t, "beyond", over, 300)
	enough(t, "not beyond", 4000-over, 1000)
}

// What the oracle reckons in fractions is what the machine's single steps are, so that it may be trusted with more of them.
func TestOracle(t *testing.T) {
	r := rand.New(rand.NewSource(1410))
	stopped := func(of func() float64) float64 {
		if a := reckoned(func() answer { return answer{x: of()} }); a.err == api.OK {
			return a.x
		}
		return inf
	}
	orInf := func(x float64) float64 {
		if isFinite(x) {
			return x
		}
		return inf
	}
	for range 20000 {
		x, y := anyFinite(r), anyFinite(r)
		got := list(stopped(func() float64 { return plus(x, y) }), stopped(func() float64 { return times(x, y) }))
		want := list(orInf(x+y), orInf(x*y))
		if y != 0 {
			got, want = append(got, stopped(func() float64 { return over(x, y) })), append(want, orInf(x/y))
		}
		if x >= 0 {
			got, want = append(got, root(x)), append(want, math.Sqrt(x))
		}
		if !sameList(got, want) {
			t.Fatalf("%x and %x: %x, not %x", x, y, got, want)
		}
	}
}
