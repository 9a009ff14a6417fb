package truth_test

import (
	"fmt"
	"math/big"
	"math/rand"
	"slices"
	"testing"

	"binnacle/api"
	"binnacle/truth"
)

// question is what is handed in; each call takes what it needs.
type question struct {
	s      api.FracState
	a      api.FracInfo
	f, q   api.FracMat
	h      []api.Frac
	r, z   api.Frac
	rows   api.FracMat
	rs, zs []api.Frac
	n      api.State
	b      api.Box
	nf, nq api.Mat
	nh     []float64
	nr, nz float64
}

// answer is all that a call may say.
type answer struct {
	err   api.Errno
	s     api.FracState
	a     api.FracInfo
	n     api.State
	b     api.Box
	three [3]api.Frac
	place int
	yes   bool
}

func (a answer) is(b answer) bool {
	return a.err == b.err && sameState(a.s, b.s) && sameInfo(a.a, b.a) && sameNumberState(a.n, b.n) && sameBox(a.b, b.b) && a.three == b.three && a.place == b.place && a.yes == b.yes
}

func fault(err api.Errno) answer { return answer{err: err} }

// faultAt is the refusal of a row.
func faultAt(place int, err api.Errno) answer { return answer{err: err, place: place} }

func saysState(s api.FracState, err api.Errno) answer { return answer{s: s, err: err} }

func saysInfo(a api.FracInfo, err api.Errno) answer { return answer{a: a, err: err} }

func saysNumbers(n api.State, err api.Errno) answer { return answer{n: n, err: err} }

func saysBox(b api.Box, err api.Errno) answer { return answer{b: b, err: err} }

func saysRows(s api.FracState, place int, err api.Errno) answer {
	return answer{s: s, place: place, err: err}
}

func saysThree(y, v, score api.Frac, err api.Errno) answer {
	return answer{three: [3]api.Frac{y, v, score}, err: err}
}

// call is one of the face's, beside what the chapter's words say of it, and the errors by which it may refuse.
type call struct {
	name       string
	ask, words func(q question) answer
	errs       []api.Errno
}

func errs(l ...api.Errno) []api.Errno { return l }

// calls are all of the face.
func calls() []call {
	check := errs(api.ErrRange, api.ErrShape, api.ErrFrac, api.ErrFracSym, api.ErrCovPos)
	row := append(slices.Clip(check), api.ErrVariance)
	number := errs(api.ErrRange, api.ErrShape, api.ErrNumber, api.ErrCovSym, api.ErrCovPos)
	boxes := errs(api.ErrRange, api.ErrShape, api.ErrNumber, api.ErrBox)
	return []call{
		{"Check", func(q question) answer { return fault(truth.Check(q.s)) }, func(q question) answer { return wordsOfCheck(q.s) }, check},
		{"Of", func(q question) answer { return saysState(truth.Of(q.n)) }, func(q question) answer { return wordsOfOf(q.n) }, number},
		{"Near", func(q question) answer { return saysNumbers(truth.Near(q.s)) }, func(q question) answer { return wordsOfNear(q.s) }, append(slices.Clip(check), api.ErrOver)},
		{"Predict", func(q question) answer { return saysState(truth.Predict(q.s, q.f, q.q)) }, func(q question) answer { return wordsOfPredict(q.s, q.f, q.q) }, check},
		{"Update", func(q question) answer { return saysState(truth.Update(q.s, q.h, q.r, q.z)) }, func(q question) answer { return wordsOfUpdate(q.s, q.h, q.r, q.z) }, row},
		{"Short", func(q question) answer { return saysState(truth.Short(q.s, q.h, q.r, q.z)) }, func(q question) answer { return wordsOfShort(q.s, q.h, q.r, q.z) }, row},
		{"Rows", func(q question) answer { return saysRows(truth.Rows(q.s, q.rows, q.rs, q.zs)) }, func(q question) answer { return wordsOfRows(q.s, q.rows, q.rs, q.zs) }, row},
		{"Score", func(q question) answer { return saysThree(truth.Score(q.s, q.h, q.r, q.z)) }, func(q question) answer { return wordsOfScore(q.s, q.h, q.r, q.z) }, row},
		{"Info", func(q question) answer { return saysInfo(truth.Info(q.s)) }, func(q question) answer { return wordsOfInfo(q.s) }, check},
		{"Back", func(q question) answer { return saysState(truth.Back(q.a)) }, func(q question) answer { return wordsOfBack(q.a) }, check},
		{"Learn", func(q question) answer { return saysInfo(truth.Learn(q.a, q.h, q.r, q.z)) }, func(q question) answer { return wordsOfLearn(q.a, q.h, q.r, q.z) }, row},
		{"CheckBox", func(q question) answer { return fault(truth.CheckBox(q.b)) }, func(q question) answer { return wordsOfCheckBox(q.b) }, errs(api.ErrRange, api.ErrShape, api.ErrBox)},
		{"BoxOf", func(q question) answer { return saysBox(truth.BoxOf(q.n)) }, func(q question) answer { return wordsOfBoxOf(q.n) }, number},
		{"BoxPredict", func(q question) answer { return saysBox(truth.BoxPredict(q.b, q.nf, q.nq)) }, func(q question) answer { return wordsOfBoxPredict(q.b, q.nf, q.nq) }, append(slices.Clip(boxes), api.ErrCovSym)},
		{"BoxUpdate", func(q question) answer { return saysBox(truth.BoxUpdate(q.b, q.nh, q.nr, q.nz)) }, func(q question) answer { return wordsOfBoxUpdate(q.b, q.nh, q.nr, q.nz) }, append(slices.Clip(boxes), api.ErrVariance, api.ErrWide)},
		{"Inside", func(q question) answer { return answer{yes: truth.Inside(q.b, q.n)} }, func(q question) answer { return wordsOfInside(q.b, q.n) }, nil},
		{"Holds", func(q question) answer { return answer{yes: truth.Holds(q.b, q.s)} }, func(q question) answer { return wordsOfHolds(q.b, q.s) }, nil},
	}
}

// held asks a call and tells if it doesn't say what the words say; it answers what they say.
func held(t *testing.T, wrong *int, c call, q question) answer {
	t.Helper()
	got, want := c.ask(q), reckoned(func() answer { return c.words(q) })
	if !got.is(want) {
		t.Errorf("%s of %+v:\n got %+v\nwant %+v", c.name, q, got, want)
		few(t, wrong)
	}
	return want
}

// fitQuestion is one in which nothing is wrong by itself.
func fitQuestion(r *rand.Rand, kind, n int) question {
	q := question{s: fitState(r, kind, n), a: fitInfo(r, kind, n), n: fitNumbers(r, n)}
	q.f, q.q = fitMove(r, n)
	q.h, q.r, q.z = fitRow(r, n), fitVariance(r), text(r, kind)
	q.rows, q.rs, q.zs = fitRows(r, r.Intn(1+3/(1+n/5)), n)
	q.b = oneOf(r, around(r, q.n), aroundFracs(r, q.s))
	q.nf, q.nq = numberMove(r, n)
	q.nh, q.nr, q.nz = numberRow(r, n), numberVariance(r), anyFinite(r)
	return q
}

// anyQuestion is one of each sort: what goes together, and what doesn't.
func anyQuestion(r *rand.Rand) question {
	n := anySize(r)
	q := fitQuestion(r, r.Intn(kinds), n)
	if r.Intn(3) == 0 {
		spoil(r, &q.s.X, &q.s.P)
	}
	if r.Intn(3) == 0 {
		spoil(r, &q.a.V, &q.a.Y)
	}
	if r.Intn(2) == 0 {
		q.f, q.q = anyMove(r, n)
		q.h, q.r, q.z = anyRow(r, n), anyVariance(r), anyValue(r)
		q.rows, q.rs, q.zs = anyRows(r, n)
	}
	if r.Intn(40) == 0 && len(q.s.X) > 0 {
		q.s.X[0] = oneOf(r, power(1024, 0), power(1024, -1), "-"+power(1024, 0))
	}
	if r.Intn(3) == 0 {
		spoilNumbers(r, &q.n)
	}
	if r.Intn(3) == 0 {
		spoilBox(r, &q.b)
	}
	if r.Intn(2) == 0 {
		spoilPoints(r, &q)
	}
	return q
}

// P18.1 to P18.8: all calls, whatever chance brings; each must have been answered, and refused in each of its ways, often enough, and in no other.
func TestByTheWords(t *testing.T) {
	r := rand.New(rand.NewSource(181))
	wrong := 0
	came, yes := map[string]map[api.Errno]int{}, map[string]int{}
	for range 3000 {
		q := anyQuestion(r)
		for _, c := range calls() {
			if came[c.name] == nil {
				came[c.name] = map[api.Errno]int{}
			}
			want := held(t, &wrong, c, q)
			came[c.name][want.err]++
			if want.yes {
				yes[c.name]++
			}
		}
	}
	for _, c := range calls() {
		for _, err := range append(errs(api.OK), c.errs...) {
			enough(t, fmt.Sprintf("%s, error %d", c.name, err), came[c.name][err], 15)
			delete(came[c.name], err)
		}
		if len(came[c.name]) > 0 {
			t.Errorf("%s: refused by %v", c.name, came[c.name])
		}
	}
	for _, name := range []string{"Inside", "Holds"} {
		enough(t, name, yes[name], 300)
		enough(t, "not "+name, 3000-yes[name], 300)
	}
}

// P18.1 to P18.8: states of each kind and each size.
func TestFormulas(t *testing.T) {
	r := rand.New(rand.NewSource(182))
	wrong := 0
	var answered [kinds]map[string]int
	for kind := range kinds {
		answered[kind] = map[string]int{}
		for n := range api.MaxDim + 1 {
			for range 1 + 6/(n+1) {
				q := fitQuestion(r, kind, n)
				for _, c := range calls() {
					if want := held(t, &wrong, c, q); want.err == api.OK && (want.yes || c.errs != nil) {
						answered[kind][c.name]++
					}
				}
			}
		}
	}
	for kind, names := range answered {
		for _, c := range calls() {
			if names[c.name] < 6 {
				t.Errorf("kind %d: %s answered only %d times", kind, c.name, names[c.name])
			}
		}
	}
}

// What the oracle asks of a covariance is what its determinants say; its inverse is one.
func TestOracle(t *testing.T) {
	for _, c := range []struct {
		m  api.FracMat
		is bool
	}{
		{square(), true}, {square("1/9"), true}, {square("0"), false}, {square("-1"), false}, {square("2", "1", "1", "2"), true}, {square("1", "2", "2", "1"), false},
		{square("1", "1", "1", "1"), false}, {square("1", "1", "1", "1000001/1000000"), true}, {square("0", "0", "0", "1"), false}, {square("0", "1", "1", "0"), false},
		{square("2", "-1", "0", "-1", "2", "-1", "0", "-1", "2"), true}, {square("2", "-1", "-1", "-1", "2", "-1", "-1", "-1", "2"), false},
	} {
		if isPositive(isGood(c.m)) != c.is {
			t.Errorf("%v", c.m)
		}
	}
	r := rand.New(rand.NewSource(183))
	for round := range 40 {
		p := gram(r, round%kinds, round%7)
		if !sameFracMat(p.times(inverse(p)).texts(), unit(p.rows)) {
			t.Errorf("%v", p.texts())
		}
	}
	if q := nearest(big.NewRat(-1, 1)); q != -1 {
		t.Error(q)
	}
}

// The chapter's examples, as they stand.
func TestExamples(t *testing.T) {
	s := one("0", "4")
	h := fracs("1")
	want := answer{s: one("4", "4/5")}
	hold(t, told3{"Update", saysState(truth.Update(s, h, "1", "5")), want})
	hold(t, told3{"Short", saysState(truth.Short(s, h, "1", "5")), want})
	hold(t, told3{"Score", saysThree(truth.Score(s, h, "1", "5")), answer{three: [3]api.Frac{"5", "5", "5"}}})
	hold(t, told3{"Info", saysInfo(truth.Info(s)), answer{a: info(fracs("0"), "1/4")}})
	hold(t, told3{"Learn", saysInfo(truth.Learn(info(fracs("0"), "1/4"), h, "1", "5")), answer{a: info(fracs("5"), "5/4")}})
	hold(t, told3{"Back", saysState(truth.Back(info(fracs("5"), "5/4"))), want})
	n := numberState(list(0), 4)
	b, err := truth.BoxOf(n)
	hold(t, told3{"BoxOf", saysBox(b, err), answer{b: box(points(0), point(4))}})
	b, err = truth.BoxUpdate(b, list(1), 1, 5)
	if err != api.OK || !(b.X[0].Lo <= 4 && b.X[0].Hi >= 4 && b.X[0].Hi-b.X[0].Lo < 1e-14) || !lies(b.P[0], big.NewRat(4, 5)) || !truth.Holds(b, one("4", "4/5")) {
		t.Error(b, err)
	}
	if k := updatedNumbers(n, list(1), 1, 5); !truth.Inside(b, k) {
		t.Error(b, k)
	}
	hold(t, told3{"Check", fault(truth.Check(state(fracs("0", "0"), "1", "1", "1", "1"))), fault(api.ErrCovPos)})
	hold(t, told3{"variance 0", saysState(truth.Update(s, h, "0", "5")), fault(api.ErrVariance)})
	hold(t, told3{"h 2/4", saysState(truth.Update(s, fracs("2/4"), "1", "5")), fault(api.ErrFrac)})
	hold(t, told3{"the empty one", fault(truth.CheckBox(box(intervals(between(inf, -inf)), point(1)))), fault(api.ErrBox)})
	// Of the whole's examples: two rows of one variance, in either order.
	for _, z := range [][]api.Frac{fracs("5", "3"), fracs("3", "5")} {
		hold(t, told3{"Rows", saysRows(truth.Rows(s, frac(2, 1, "1", "1"), fracs("1", "1"), z)), answer{s: one("32/9", "4/9")}})
	}
}

// told3 is what was said, beside what should have been.
type told3 struct {
	what      string
	got, want answer
}

func hold(t *testing.T, c told3) {
	t.Helper()
	if !c.got.is(c.want) {
		t.Errorf("%s:\n got %+v\nwant %+v", c.what, c.got, c.want)
	}
}
