package truth_test

import (
	"math"
	"math/rand"
	"testing"

	"binnacle/api"
	"binnacle/interval"
	"binnacle/kalman"
	"binnacle/rational"
	"binnacle/truth"
)

// rounds is how many rows a run of small states has.
const rounds = 25

// viaInfo is the update by what is known as information.
func viaInfo(s api.FracState, h []api.Frac, r, z api.Frac) answer {
	a, err := truth.Info(s)
	if err != api.OK {
		return fault(err)
	}
	if a, err = truth.Learn(a, h, r, z); err != api.OK {
		return fault(err)
	}
	return saysState(truth.Back(a))
}

// P18.9: one filter in three forms, along a run; there and back.
func TestOneFilter(t *testing.T) {
	r := rand.New(rand.NewSource(189))
	same := 0
	for round := range 60 {
		n := round % 6
		s := fitState(r, round%kinds, n)
		for range 1 + rounds/(n+1) {
			h, v, z := fitRow(r, n), fitVariance(r), text(r, round%kinds)
			long, short := saysState(truth.Update(s, h, v, z)), saysState(truth.Short(s, h, v, z))
			hold(t, told3{"Short", short, long})
			if long.err != api.OK {
				break
			}
			if other := viaInfo(s, h, v, z); other.err != api.ErrLong {
				hold(t, told3{"by information", other, long})
				same++
			}
			a, err := truth.Info(s)
			if err == api.OK {
				hold(t, told3{"there and back", saysState(truth.Back(a)), answer{s: s}})
			}
			s = long.s
		}
	}
	enough(t, "three forms", same, 300)
}

// shuffled are rows in another order.
func shuffled(r *rand.Rand, q question) question {
	out := question{s: q.s, rows: frac(q.rows.Rows, q.rows.Cols)}
	for _, i := range r.Perm(q.rows.Rows) {
		out.rows.At = append(out.rows.At, q.rows.At[i*q.rows.Cols:(i+1)*q.rows.Cols]...)
		out.rs, out.zs = append(out.rs, q.rs[i]), append(out.zs, q.zs[i])
	}
	return out
}

func askRows(q question) answer { return saysRows(truth.Rows(q.s, q.rows, q.rs, q.zs)) }

// P18.10: what came at once may come in any order; Rows is Update row by row.
func TestAnyOrder(t *testing.T) {
	r := rand.New(rand.NewSource(1810))
	for round := range 150 {
		n := round % 5
		q := question{s: fitState(r, round%kinds, n)}
		q.rows, q.rs, q.zs = fitRows(r, 1+r.Intn(5), n)
		all := askRows(q)
		for range 4 {
			hold(t, told3{"in another order", askRows(shuffled(r, q)), all})
		}
		s := q.s
		for i := range q.rows.Rows {
			var err api.Errno
			if s, err = truth.Update(s, q.rows.At[i*n:(i+1)*n], q.rs[i], q.zs[i]); err != api.OK {
				t.Fatal(err)
			}
		}
		hold(t, told3{"row by row", answer{s: s}, all})
	}
	// Of numbers exactly, which are longer.
	for range 10 {
		s := truthOf(t, fitNumbers(r, 3))
		q := question{s: s, rows: frac(4, 3)}
		for range 4 {
			for range 3 {
				q.rows.At = append(q.rows.At, textOf(exactly(r.NormFloat64())))
			}
			q.rs, q.zs = append(q.rs, textOf(exactly(sized(r, -4, 4)))), append(q.zs, textOf(exactly(r.NormFloat64())))
		}
		hold(t, told3{"numbers in another order", askRows(shuffled(r, q)), askRows(q)})
	}
}

// atMost is Loewner's order, which nothing may refuse.
func atMost(t *testing.T, a, b api.FracMat) bool {
	t.Helper()
	is, err := rational.AtMost(a, b)
	if err != api.OK {
		t.Fatalf("AtMost: error %d", err)
	}
	return is
}

// P18.11: positive, and never less known: by Check, by rational and by the oracle.
func TestPositiveAlways(t *testing.T) {
	r := rand.New(rand.NewSource(1811))
	predicted, refused, less := 0, 0, 0
	for round := range 400 {
		n := 1 + round%5
		s := fitState(r, round%kinds, n)
		after, err := truth.Update(s, fitRow(r, n), fitVariance(r), text(r, kindSmall))
		if err != api.OK {
			t.Fatalf("error %d", err)
		}
		if truth.Check(after) != api.OK || !isPositive(isGood(after.P)) || !atMost(t, after.P, s.P) {
			t.Fatalf("Update of %+v: %+v", s, after)
		}
		if !atMost(t, s.P, after.P) {
			less++
		}
		a, err := truth.Info(s)
		if err != api.OK || !isPositive(isGood(a.Y)) || !sameFracMat(isGood(a.Y).times(isGood(s.P)).texts(), unit(n)) {
			t.Fatalf("Info of %+v: %+v", s, a)
		}
		back, err := truth.Back(api.FracInfo{Y: s.P, V: s.X})
		if err != api.OK || truth.Check(back) != api.OK {
			t.Fatalf("Back of %+v: %+v", s, back)
		}
		f, q := fitMove(r, n)
		after, err = truth.Predict(s, f, q)
		switch {
		case err == api.OK && truth.Check(after) == api.OK && isPositive(isGood(after.P)):
			predicted++
		case err == api.ErrCovPos:
			refused++
		default:
			t.Fatalf("Predict of %+v: %+v, error %d", s, after, err)
		}
	}
	enough(t, "predicted", predicted, 150)
	enough(t, "refused", refused, 50)
	enough(t, "less", less, 200)
}

// exactMat is a matrix of numbers as fractions.
func exactMat(t *testing.T, m api.Mat) api.FracMat {
	t.Helper()
	out, err := rational.OfMat(m)
	if err != api.OK {
		t.Fatalf("OfMat of %+v: error %d", m, err)
	}
	return out
}

func exactList(l ...float64) (out []api.Frac) {
	for _, x := range l {
		out = append(out, textOf(exactly(x)))
	}
	return out
}

// course is a box, and what goes along in it: numbers, as far as kalman goes, and fractions.
type course struct {
	b             api.Box
	n             api.State
	s             api.FracState
	along, exact  bool
	inside, holds int
}

// goes takes what the calls answer, and holds them to one another.
func (c *course) goes(t *testing.T, what string, b, n, s answer) bool {
	t.Helper()
	if b.err != api.OK {
		return false
	}
	c.b = b.b
	if c.along = c.along && n.err == api.OK; c.along {
		c.n = n.n
		c.inside++
		if !truth.Inside(c.b, c.n) {
			t.Fatalf("%s: %+v not in %+v", what, c.n, c.b)
		}
	}
	if c.exact = c.exact && s.err == api.OK; c.exact {
		c.s = s.s
		c.holds++
		if !truth.Holds(c.b, c.s) {
			t.Fatalf("%s: %+v not in %+v", what, c.s, c.b)
		}
	}
	return c.along || c.exact
}

// moved moves all by numbers.
func (c *course) moved(t *testing.T, f, q api.Mat) bool {
	n, err := kalman.Predict(c.n, f, q)
	return c.goes(t, "Predict", saysBox(truth.BoxPredict(c.b, f, q)), saysNumbers(n, err), saysState(truth.Predict(c.s, exactMat(t, f), exactMat(t, q))))
}

// toldRow tells all a row.
func (c *course) toldRow(t *testing.T, h []float64, r, z float64) bool {
	n, _, err := kalman.Update(c.n, h, r, z)
	return c.goes(t, "Update", saysBox(truth.BoxUpdate(c.b, h, r, z)), saysNumbers(n, err), saysState(truth.Update(c.s, exactList(h...), textOf(exactly(r)), textOf(exactly(z)))))
}

// P18.12: what a box holds lies within what comes of it, step by step: the numbers, and the fractions.
func TestTheyLieWithin(t *testing.T) {
	r := rand.New(rand.NewSource(1812))
	inside, holds := 0, 0
	for round := range 500 {
		n := round % 5
		c := course{n: fitNumbers(r, n), along: true, exact: true}
		c.s = truthOf(t, c.n)
		if c.b = around(r, c.n); !truth.Inside(c.b, c.n) || !truth.Holds(c.b, c.s) {
			t.Fatalf("%+v not in %+v", c.n, c.b)
		}
		for range 6 {
			f, q := numberMove(r, n)
			if !c.moved(t, f, q) || !c.toldRow(t, numberRow(r, n), numberVariance(r), oneOf(r, anyFinite(r), r.NormFloat64())) {
				break
			}
		}
		inside, holds = inside+c.inside, holds+c.holds
	}
	enough(t, "inside", inside, 800)
	enough(t, "held", holds, 800)
}

// P18.12: of fractions that are no numbers.
func TestFractionsLieWithin(t *testing.T) {
	r := rand.New(rand.NewSource(18122))
	asked := 0
	for round := range 300 {
		n := round % 4
		c := course{s: fitState(r, round%kinds, n), exact: true}
		if c.b = aroundFracs(r, c.s); !truth.Holds(c.b, c.s) {
			continue
		}
		for range 4 {
			if !c.toldRow(t, numberRow(r, n), numberVariance(r), r.NormFloat64()) {
				break
			}
			if f, q := numberMove(r, n); !c.moved(t, f, q) {
				break
			}
		}
		asked += c.holds
	}
	enough(t, "held", asked, 300)
}

// wider is a box that holds all that another one holds.
func wider(r *rand.Rand, b api.Box) api.Box {
	n := len(b.X)
	out := api.Box{P: make([]api.Interval, n*n)}
	more := func(a api.Interval) api.Interval {
		switch r.Intn(6) {
		case 0:
			a.Lo = math.Nextafter(a.Lo, -inf)
		case 1:
			a.Hi = math.Nextafter(a.Hi, inf)
		case 2:
			a.Lo, a.Hi = a.Lo-math.Abs(a.Lo)*0x1p-10, a.Hi+0x1p-10
		case 3:
			if r.Intn(10) == 0 {
				a.Hi = inf
			}
		}
		if !isInterval(a) {
			return between(-inf, inf)
		}
		return a
	}
	for i, a := range b.X {
		out.X = append(out.X, more(a))
		for j := range i + 1 {
			a := more(b.P[i*n+j])
			out.P[i*n+j], out.P[j*n+i] = a, a
		}
	}
	return out
}

// in tells whether each interval of a box is in another one's.
func in(a, b api.Box) bool {
	for i := range a.X {
		if !interval.In(a.X[i], b.X[i]) {
			return false
		}
	}
	for i := range a.P {
		if !interval.In(a.P[i], b.P[i]) {
			return false
		}
	}
	return len(a.X) == len(b.X) && len(a.P) == len(b.P)
}

// P18.13: a wider box holds more; where S is too wide in the narrower one, it is so in the wider one.
func TestWiderHoldsMore(t *testing.T) {
	r := rand.New(rand.NewSource(1813))
	asked, wide := 0, 0
	for round := range 1200 {
		n := round % 6
		b := around(r, fitNumbers(r, n))
		c := wider(r, b)
		f, q := numberMove(r, n)
		one, other := saysBox(truth.BoxPredict(b, f, q)), saysBox(truth.BoxPredict(c, f, q))
		if one.err != api.OK || other.err != api.OK || !in(one.b, other.b) {
			t.Fatalf("BoxPredict of %+v and %+v: %+v not in %+v", b, c, one, other)
		}
		h, v, z := numberRow(r, n), numberVariance(r), anyFinite(r)
		one, other = saysBox(truth.BoxUpdate(b, h, v, z)), saysBox(truth.BoxUpdate(c, h, v, z))
		switch {
		case other.err == api.ErrWide:
			wide++
		case one.err != api.OK || other.err != api.OK || !in(one.b, other.b):
			t.Fatalf("BoxUpdate of %+v and %+v: %+v not in %+v", b, c, one, other)
		default:
			asked++
		}
	}
	enough(t, "asked", asked, 500)
	enough(t, "too wide", wide, 50)
}

// P18.14: no score is below 0; P' hangs on the row and its variance alone.
func TestScores(t *testing.T) {
	r := rand.New(rand.NewSource(1814))
	above, noughts := 0, 0
	for round := range 400 {
		n := round % 5
		s := fitState(r, round%kinds, n)
		h, v := fitRow(r, n), fitVariance(r)
		// What is foreseen: no score is less.
		y, _, _, err := truth.Score(s, h, v, "0")
		if err != api.OK {
			t.Fatalf("error %d", err)
		}
		foreseen := ratOf(y)
		p, err := truth.Update(s, h, v, "0")
		for _, z := range fracs(text(r, kindSmall), text(r, kindLong), textOf(foreseen.Neg(foreseen))) {
			y, variance, score, oops := truth.Score(s, h, v, z)
			if oops != api.OK || ratOf(score).Sign() < 0 || (ratOf(score).Sign() == 0) != (y == "0") || ratOf(variance).Cmp(ratOf(v)) < 0 {
				t.Fatalf("Score of %+v, %v, %s, %s: %s, %s, %s", s, h, v, z, y, variance, score)
			}
			if y == "0" {
				noughts++
			} else {
				above++
			}
			other, wrong := truth.Update(s, h, v, z)
			if wrong != err || !sameFracMat(p.P, other.P) {
				t.Fatalf("Update by %s: %+v, by 0: %+v", z, other, p)
			}
			if y == "0" {
				hold(t, told3{"what was foreseen moves nothing", answer{s: api.FracState{X: other.X}}, answer{s: api.FracState{X: s.X}}})
			}
		}
	}
	enough(t, "above 0", above, 500)
	enough(t, "0", noughts, 300)
}
