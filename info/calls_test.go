package info_test

import (
	"fmt"
	"math/rand"
	"slices"
	"testing"

	"binnacle/api"
	"binnacle/info"
)

// question is what is handed in; each call takes what it needs.
type question struct {
	a, b   api.Info
	s      api.State
	root   api.RootInfo
	f, q   api.Mat
	h      []float64
	r, z   float64
	rows   api.Mat
	rs, zs []float64
}

// answer is all that a call may say. The step of a formula that went over is the oracle's alone.
type answer struct {
	err   api.Errno
	a     api.Info
	s     api.State
	root  api.RootInfo
	x     []float64
	left  float64
	place int
	step  string
}

func (a answer) is(b answer) bool {
	return a.err == b.err && sameInfo(a.a, b.a) && sameState(a.s, b.s) && sameRoot(a.root, b.root) && sameList(a.x, b.x) && sameNumber(a.left, b.left) && a.place == b.place
}

func fault(err api.Errno) answer { return answer{err: err} }

// faultAt is the refusal of a row.
func faultAt(place int, err api.Errno) answer { return answer{err: err, place: place} }

func saysInfo(a api.Info, err api.Errno) answer { return answer{a: a, err: err} }

func saysState(s api.State, err api.Errno) answer { return answer{s: s, err: err} }

func saysRows(a api.Info, place int, err api.Errno) answer {
	return answer{a: a, place: place, err: err}
}

func saysRoot(a api.RootInfo, err api.Errno) answer { return answer{root: a, err: err} }

func saysLeft(a api.RootInfo, left float64, err api.Errno) answer {
	return answer{root: a, left: left, err: err}
}

func saysMeans(x []float64, err api.Errno) answer { return answer{x: x, err: err} }

// call is one of the face's, beside what the chapter's words say of it, and the errors by which it may refuse.
type call struct {
	name       string
	ask, words func(q question) answer
	errs       []api.Errno
}

func errs(l ...api.Errno) []api.Errno { return l }

// checkErrs are the errors of an information that may not be, and more.
func checkErrs(more ...api.Errno) []api.Errno {
	return append(errs(api.ErrRange, api.ErrShape, api.ErrNumber, api.ErrCovSym, api.ErrInfo), more...)
}

// rootErrs are those of a root.
func rootErrs(more ...api.Errno) []api.Errno {
	return append(errs(api.ErrRange, api.ErrShape, api.ErrNumber, api.ErrUpperTri), more...)
}

// calls are all of the face.
func calls() []call {
	return append([]call{
		{"Check", func(q question) answer { return fault(info.Check(q.a)) }, func(q question) answer {
			wordsOfCheck(q.a)
			return answer{}
		}, checkErrs()},
		{"Of", func(q question) answer { return saysInfo(info.Of(q.s)) }, func(q question) answer { return answer{a: wordsOfOf(q.s)} }, checkErrs(api.ErrCovPos, api.ErrPositive, api.ErrOver)},
		{"State", func(q question) answer { return saysState(info.State(q.a)) }, func(q question) answer { return answer{s: wordsOfState(q.a)} }, checkErrs(api.ErrCovPos, api.ErrPositive, api.ErrOver)},
		{"Update", func(q question) answer { return saysInfo(info.Update(q.a, q.h, q.r, q.z)) }, func(q question) answer { return answer{a: wordsOfUpdate(q.a, q.h, q.r, q.z)} }, checkErrs(api.ErrVariance, api.ErrOver)},
		{"Rows", func(q question) answer { return saysRows(info.Rows(q.a, q.rows, q.rs, q.zs)) }, func(q question) answer { return wordsOfRows(q.a, q.rows, q.rs, q.zs) }, checkErrs(api.ErrVariance, api.ErrOver)},
		{"Join", func(q question) answer { return saysInfo(info.Join(q.a, q.b)) }, func(q question) answer { return answer{a: wordsOfJoin(q.a, q.b)} }, checkErrs(api.ErrOver)},
		{"Predict", func(q question) answer { return saysInfo(info.Predict(q.a, q.f, q.q)) }, func(q question) answer { return answer{a: wordsOfPredict(q.a, q.f, q.q)} }, checkErrs(api.ErrCovPos, api.ErrPositive, api.ErrOver)},
		{"RootOf", func(q question) answer { return saysRoot(info.RootOf(q.a)) }, func(q question) answer { return answer{root: wordsOfRootOf(q.a)} }, checkErrs(api.ErrPositive, api.ErrOver)},
	}, callsOfRoots()...)
}

// callsOfRoots are those that take a root.
func callsOfRoots() []call {
	return []call{
		{"CheckRoot", func(q question) answer { return fault(info.CheckRoot(q.root)) }, func(q question) answer {
			wordsOfCheckRoot(q.root)
			return answer{}
		}, rootErrs()},
		{"Unroot", func(q question) answer { return saysInfo(info.Unroot(q.root)) }, func(q question) answer { return answer{a: wordsOfUnroot(q.root)} }, rootErrs(api.ErrInfo, api.ErrOver)},
		{"UpdateRoot", func(q question) answer { return saysLeft(info.UpdateRoot(q.root, q.h, q.r, q.z)) }, func(q question) answer {
			root, left := wordsOfUpdateRoot(q.root, q.h, q.r, q.z)
			return answer{root: root, left: left}
		}, rootErrs(api.ErrVariance, api.ErrOver)},
		{"Means", func(q question) answer { return saysMeans(info.Means(q.root)) }, func(q question) answer { return answer{x: wordsOfMeans(q.root)} }, rootErrs(api.ErrOver)},
	}
}

// callOf is the call of a name.
func callOf(name string) call {
	all := calls()
	return all[slices.IndexFunc(all, func(c call) bool { return c.name == name })]
}

// said is what the words say of a question.
func (c call) said(q question) answer { return reckoned(func() answer { return c.words(q) }) }

// held asks a call and tells if it doesn't say what the words say; it answers what they say.
func held(t *testing.T, wrong *int, c call, q question) answer {
	t.Helper()
	got, want := c.ask(q), c.said(q)
	if !got.is(want) {
		t.Errorf("%s of %+v:\n got %+v\nwant %+v", c.name, q, got, want)
		few(t, wrong)
	}
	return want
}

// anyQuestion is one of each sort: what goes together, and what doesn't.
func anyQuestion(r *rand.Rand) question {
	n := anySize(r)
	q := question{a: anyInfo(r, n), s: anyState(r, n), root: anyRoot(r, n)}
	q.b = anyInfo(r, oneOf(r, n, n, n, n, anySize(r)))
	if r.Intn(20) == 0 {
		q.a.V, q.b.V = filled(n, most), filled(n, oneOf(r, most, 1))
	}
	q.f, q.q = anyMove(r, n)
	q.h, q.r, q.z = anyRow(r, n), anyVariance(r), anyValue(r)
	if r.Intn(3) == 0 {
		q.r, q.z = 1, r.NormFloat64()
	}
	q.rows, q.rs, q.zs = anyRows(r, n)
	return q
}

// fitQuestion is one in which nothing is wrong by itself, though steps may go over.
func fitQuestion(r *rand.Rand, kind, n int) question {
	q := question{a: fitInfo(r, kind, n), b: fitInfo(r, oneOf(r, kind, r.Intn(kinds)), n), s: fitState(r, kind, n), root: fitRoot(r, kind, n)}
	q.f, q.q = fitMove(r, n)
	q.h, q.r, q.z = oneOf(r, fitRow, fitRow, smallRow)(r, n), oneOf(r, 1, fitVariance(r)), oneOf(r, anyFinite(r), r.NormFloat64())
	q.rows = mat(r.Intn(5), n)
	for range q.rows.Rows {
		q.rows.At = append(q.rows.At, fitRow(r, n)...)
		q.rs = append(q.rs, oneOf(r, 1, between(r, -4, 4), fitVariance(r)))
		q.zs = append(q.zs, oneOf(r, r.NormFloat64(), anyFinite(r)))
	}
	return q
}

// P17.1 to P17.7: all calls, whatever chance brings, bit by bit; each must have been answered, and refused in each of its ways, often enough, and in no other.
func TestByTheWords(t *testing.T) {
	r := rand.New(rand.NewSource(171))
	wrong := 0
	came := map[string]map[api.Errno]int{}
	for range 7000 {
		q := anyQuestion(r)
		for _, c := range calls() {
			if came[c.name] == nil {
				came[c.name] = map[api.Errno]int{}
			}
			came[c.name][held(t, &wrong, c, q).err]++
		}
	}
	for _, c := range calls() {
		for _, err := range append(errs(api.OK), c.errs...) {
			enough(t, fmt.Sprintf("%s, error %d", c.name, err), came[c.name][err], 20)
			delete(came[c.name], err)
		}
		if len(came[c.name]) > 0 {
			t.Errorf("%s: refused by %v", c.name, came[c.name])
		}
	}
}

// P17.1 to P17.7: informations, states and roots of each kind and each size, and what goes with them: what is answered, and what the formulas refuse.
func TestFormulas(t *testing.T) {
	r := rand.New(rand.NewSource(172))
	wrong := 0
	refused := map[string]map[api.Errno]int{}
	for _, c := range calls() {
		refused[c.name] = map[api.Errno]int{}
	}
	for kind := range kinds {
		answered := map[string]int{}
		for n := range api.MaxDim + 1 {
			for range 12 {
				q := fitQuestion(r, kind, n)
				for _, c := range calls() {
					err := held(t, &wrong, c, q).err
					refused[c.name][err]++
					if err == api.OK {
						answered[c.name]++
					}
				}
			}
		}
		for _, c := range calls() {
			enough(t, fmt.Sprintf("kind %d: %s", kind, c.name), answered[c.name], 8)
		}
	}
	for _, c := range []struct {
		name string
		errs []api.Errno
	}{
		{"Of", errs(api.ErrPositive, api.ErrInfo, api.ErrOver)}, {"State", errs(api.ErrPositive, api.ErrCovPos, api.ErrOver)}, {"Update", errs(api.ErrOver)}, {"Rows", errs(api.ErrOver)},
		{"Predict", errs(api.ErrPositive, api.ErrCovPos, api.ErrOver)}, {"RootOf", errs(api.ErrPositive, api.ErrOver)}, {"Unroot", errs(api.ErrInfo, api.ErrOver)}, {"UpdateRoot", errs(api.ErrUpperTri, api.ErrOver)}, {"Means", errs(api.ErrOver)},
	} {
		for _, err := range c.errs {
			enough(t, fmt.Sprintf("%s, error %d", c.name, err), refused[c.name][err], 5)
		}
	}
}

// What the oracle asks of a matrix is what its determinants say.
func TestOracle(t *testing.T) {
	for _, c := range []struct {
		m  api.Mat
		is bool
	}{
		{square(), true}, {square(least), true}, {square(0), false}, {square(-1), false}, {square(2, 1, 1, 2), true}, {square(1, 2, 2, 1), false},
		{square(1, 1, 1, 1), false}, {square(1, 1, 1, 1+0x1p-52), true}, {square(most, 0, 0, least), true}, {square(0, 0, 0, 1), false},
		{square(2, -1, 0, -1, 2, -1, 0, -1, 2), true}, {square(1, 1, 1, 1, 2, 2, 1, 2, 2), false}, {square(2, -1, -1, -1, 2, -1, -1, -1, 2), false},
	} {
		if isPositiveMat(c.m) != c.is {
			t.Errorf("%v", c.m)
		}
	}
}
