package truth_test

import (
	"math"
	"math/rand"
	"slices"
	"testing"

	"binnacle/api"
	"binnacle/kalman"
	"binnacle/truth"
)

// edge is what a state and what goes with it should come to.
type edge struct {
	what string
	q    question
	want answer
}

// holdEach asks a call at each of its edges; what the words say of it must be as the table says, too.
func holdEach(t *testing.T, name string, edges []edge) {
	t.Helper()
	all := calls()
	c := all[slices.IndexFunc(all, func(c call) bool { return c.name == name })]
	for _, e := range edges {
		hold(t, told3{name + ", " + e.what, c.ask(e.q), e.want})
		hold(t, told3{"the words of " + name + ", " + e.what, reckoned(func() answer { return c.words(e.q) }), e.want})
	}
}

// fit is a state of two numbers.
func fit() api.FracState { return state(fracs("1", "-2/3"), "2", "1/2", "1/2", "1") }

// twelve is a state of as many numbers as there may be.
func twelve() api.FracState {
	return api.FracState{X: repeated[api.Frac](12, "1/3"), P: diagonal(repeated[api.Frac](12, "4")...)}
}

// stateEdges are states beside what Check says of them; of the informations made of them, too.
func stateEdges() []edge {
	x := fracs("1", "-2/3")
	at := func(p api.FracMat, x ...api.Frac) question {
		return question{s: api.FracState{X: x, P: p}, a: api.FracInfo{Y: p, V: x}}
	}
	thirteen := api.FracMat{Rows: 13, Cols: 13, At: repeated[api.Frac](169, "1")}
	out := []edge{
		{"without rows", at(square()), answer{}},
		{"of one number", at(square("1/1000"), "0"), answer{}},
		{"of two", at(fit().P, x...), answer{}},
		{"of twelve", at(twelve().P, twelve().X...), answer{}},
		{"of thirteen", at(thirteen, repeated[api.Frac](13, "1")...), fault(api.ErrRange)},
		{"rows below 0", at(frac(-1, 2), x...), fault(api.ErrRange)},
		{"columns below 0", at(frac(2, math.MinInt), x...), fault(api.ErrRange)},
		{"too few in P", at(frac(2, 2, "1", "0", "0"), x...), fault(api.ErrShape)},
		{"too many in P", at(frac(2, 2, "1", "0", "0", "1", "1"), x...), fault(api.ErrShape)},
		{"P not square", at(frac(2, 3, "1", "0", "0", "0", "1", "0"), x...), fault(api.ErrShape)},
		{"P not square, columns as many as X", at(frac(1, 2, "1", "0"), x...), fault(api.ErrShape)},
		{"rows without columns", at(frac(2, 0), x...), fault(api.ErrShape)},
		{"X too short", at(fit().P, "1"), fault(api.ErrShape)},
		{"X too long", at(fit().P, "1", "1", "1"), fault(api.ErrShape)},
		{"no X", at(fit().P), fault(api.ErrShape)},
		{"no P", at(square(), "1"), fault(api.ErrShape)},
		{"not symmetric", at(square("2", "1/2", "1/3", "1"), x...), fault(api.ErrFracSym)},
		{"not symmetric by a sign", at(square("2", "1/2", "-1/2", "1"), x...), fault(api.ErrFracSym)},
		{"not symmetric far off", at(square("2", "0", "1", "0", "2", "0", "0", "0", "2"), "0", "0", "0"), fault(api.ErrFracSym)},
		{"on the edge of positive", at(square("1", "1", "1", "1"), x...), fault(api.ErrCovPos)},
		{"just over the edge", at(square("1", "1", "1", textOver(power(60000, 1), power(60000, 0))), x...), answer{}},
		{"just behind it", at(square("1", "1", "1", textOver(power(60000, -1), power(60000, 0))), x...), fault(api.ErrCovPos)},
		{"nought", at(square("0"), "1"), fault(api.ErrCovPos)},
		{"below 0", at(square("-1"), "1"), fault(api.ErrCovPos)},
		{"two below 0", at(square("-2", "0", "0", "-2"), x...), fault(api.ErrCovPos)},
		{"indefinite", at(square("1", "2", "2", "1"), x...), fault(api.ErrCovPos)},
		{"the longest in P", at(square(longest()), "1"), answer{}},
		{"the longest below the stroke", at(square(under(longest())), "1"), answer{}},
		{"the longest in X", at(square("1"), longest()), answer{}},
	}
	for _, f := range noFractions() {
		out = append(out,
			edge{"in P " + name(f), at(square("2", "0", "0", f), x...), fault(api.ErrFrac)},
			edge{"in X " + name(f), at(fit().P, "1", f), fault(api.ErrFrac)},
		)
	}
	return out
}

// textOver is a / b of whole numbers that nothing but 1 divides.
func textOver(a, b api.Frac) api.Frac { return a + "/" + b }

// name cuts off a text that is too long to be told.
func name(f api.Frac) string { return string(f[:min(len(f), 20)]) }

// P18.1, P18.5: what a state may be, and an information: each call that takes one asks.
func TestWhatMayBe(t *testing.T) {
	edges := stateEdges()
	holdEach(t, "Check", edges)
	for _, e := range edges {
		if e.want.err == api.OK {
			continue
		}
		q := e.q
		q.f, q.q = fit().P, fit().P
		q.h, q.r, q.z = fracs("1", "1"), "1", "1"
		q.rows = frac(0, 2)
		for _, c := range calls() {
			if slices.Contains([]string{"Near", "Predict", "Update", "Short", "Rows", "Score", "Info", "Back", "Learn"}, c.name) {
				hold(t, told3{c.name + ", " + e.what, c.ask(q), e.want})
			}
		}
	}
}

// P18.1: Of: numbers at their ends, and what kalman.Check refuses.
func TestEdgesOfOf(t *testing.T) {
	two := func(x float64, p ...float64) question { return question{n: numberState(list(x, 0), p...)} }
	one := func(x, p float64) question { return question{n: numberState(list(x), p)} }
	edges := []edge{
		{"without rows", question{}, answer{}},
		{"one number", one(0.1, 4), answer{s: state(fracs("3602879701896397/36028797018963968"), "4")}},
		{"-0", one(minus, 1), answer{s: state(fracs("0"), "1")}},
		{"-0 in P", question{n: numberState(list(1, 2), 2, minus, minus, 2)}, answer{s: state(fracs("1", "2"), "2", "0", "0", "2")}},
		{"the least number", one(-least, least), answer{s: state(fracs("-"+under(power(1074, 0))), under(power(1074, 0)))}},
		{"the greatest", one(most, most), answer{s: state(fracs(greatest()), greatest())}},
		{"not square", question{n: api.State{X: list(1), P: mat(1, 2, 1, 0)}}, fault(api.ErrShape)},
		{"X too short", question{n: api.State{P: numbers(1)}}, fault(api.ErrShape)},
		{"X too long", question{n: numberState(list(1, 2), 1)}, fault(api.ErrShape)},
		{"thirteen rows", question{n: api.State{P: mat(13, 13)}}, fault(api.ErrRange)},
		{"too few in P", question{n: api.State{X: list(1), P: mat(1, 1)}}, fault(api.ErrShape)},
		{"not symmetric", two(1, 2, 1, math.Nextafter(1, 2), 2), fault(api.ErrCovSym)},
		{"not symmetric by a nought", two(1, 2, 0, minus, 2), fault(api.ErrCovSym)},
		{"on the edge of positive", two(1, 1, 1, 1, 1), fault(api.ErrCovPos)},
		{"just over it", two(1, 1, 1, 1, 1+0x1p-52), answer{s: state(fracs("1", "0"), "1", "1", "1", "4503599627370497/4503599627370496")}},
		{"nought", one(1, 0), fault(api.ErrCovPos)},
	}
	for _, x := range unfit() {
		edges = append(edges, edge{"not finite in X", one(x, 1), fault(api.ErrNumber)}, edge{"not finite in P", one(1, x), fault(api.ErrNumber)})
	}
	holdEach(t, "Of", edges)
	for _, e := range edges {
		if e.want.err != api.OK {
			hold(t, told3{"BoxOf, " + e.what, saysBox(truth.BoxOf(e.q.n)), e.want})
		}
	}
	twelve := truthOf(t, api.State{X: make([]float64, 12), P: diagonalNumbers(repeated(12, 0.5)...)})
	hold(t, told3{"twelve", answer{s: twelve}, answer{s: api.FracState{X: repeated[api.Frac](12, "0"), P: diagonal(repeated[api.Frac](12, "1/2")...)}}})
}

// greatest is the greatest number.
func greatest() api.Frac { return textOf(exactly(most)) }

func truthOf(t *testing.T, s api.State) api.FracState {
	t.Helper()
	out, err := truth.Of(s)
	if err != api.OK {
		t.Errorf("Of %+v: error %d", s, err)
	}
	return out
}

func diagonalNumbers(d ...float64) api.Mat {
	m := numbers(make([]float64, len(d)*len(d))...)
	for i, x := range d {
		m.At[i*len(d)+i] = x
	}
	return m
}

// P18.1: Near: what goes over, and what is positive no more.
func TestEdgesOfNear(t *testing.T) {
	// Half a step above the greatest number: what is below it is rounded down.
	half := power(1024, 0)
	below := textOf(exactly(most).Add(exactly(most), exactly(0x1p969)))
	at := func(x, p api.Frac) question { return question{s: one(x, p)} }
	numbers := func(x, p float64) answer { return answer{n: numberState(list(x), p)} }
	holdEach(t, "Near", []edge{
		{"without rows", question{}, answer{}},
		{"fractions", at("1/3", "4/5"), numbers(1.0/3, 0.8)},
		{"the greatest number", at("-"+greatest(), greatest()), numbers(-most, most)},
		{"just above it", at(below, "1"), numbers(most, 1)},
		{"over in X", at(half, "1"), fault(api.ErrOver)},
		{"over below 0", at("-"+half, "1"), fault(api.ErrOver)},
		{"over in P", at("1", half), fault(api.ErrOver)},
		{"far over", at(longest(), longest()), fault(api.ErrOver)},
		{"near 0 from below", at("-"+under(power(2000, 0)), "1"), numbers(minus, 1)},
		{"near 0 from above", at(under(power(2000, 0)), "1"), numbers(0, 1)},
		{"P falls to 0", at("1", under(power(2000, 0))), fault(api.ErrCovPos)},
		{"P falls to 0, of two as near", at("1", under(power(1075, 0))), fault(api.ErrCovPos)},
		{"P is the least number", at("1", textOver("3", power(1076, 0))), numbers(1, least)},
		{"P is singular then", question{s: state(fracs("0", "0"), "1", "1", "1", textOver(power(60, 1), power(60, 0)))}, fault(api.ErrCovPos)},
		{"P is not so then", question{s: state(fracs("0", "0"), "1", "1", "1", textOver(power(52, 1), power(52, 0)))}, answer{n: numberState(list(0, 0), 1, 1, 1, 1+0x1p-52)}},
		{"over ahead of not positive", question{s: state(fracs("0", "0"), under(power(2000, 0)), "0", "0", half)}, fault(api.ErrOver)},
		{"over in X ahead of not positive", at(half, under(power(2000, 0))), fault(api.ErrOver)},
	})
}

// P18.2: f and q, and what comes of them.
func TestEdgesOfPredict(t *testing.T) {
	s := fit()
	at := func(f, q api.FracMat) question { return question{s: s, f: f, q: q} }
	none := diagonal("0", "0")
	of1 := func(x, p, f, q api.Frac) question { return question{s: one(x, p), f: square(f), q: square(q)} }
	edges := []edge{
		{"without rows", question{}, answer{}},
		{"by hand", question{s: state(fracs("1", "2"), "1", "0", "0", "1"), f: square("1", "1", "0", "1"), q: square("0", "0", "0", "1")}, answer{s: state(fracs("3", "2"), "2", "1", "1", "2")}},
		{"one number", of1("3", "4", "1/2", "1"), answer{s: one("3/2", "2")}},
		{"standing still", at(unit(2), none), answer{s: s}},
		{"a noise below 0", of1("3", "4", "1", "-3"), answer{s: one("3", "1")}},
		{"all gone", of1("3", "4", "1", "-4"), fault(api.ErrCovPos)},
		{"less than nothing", of1("3", "4", "1", "-5"), fault(api.ErrCovPos)},
		{"nothing is known of it", of1("3", "4", "0", "0"), fault(api.ErrCovPos)},
		{"one of two is known", at(square("1", "1", "1", "1"), none), fault(api.ErrCovPos)},
		{"one of two, with a noise", at(square("1", "1", "1", "1"), diagonal("0", "1")), answer{s: state(fracs("1/3", "1/3"), "4", "4", "4", "5")}},
		{"f of one row", at(square("1"), none), fault(api.ErrShape)},
		{"f of three rows", at(unit(3), none), fault(api.ErrShape)},
		{"f not square", at(frac(2, 1, "1", "1"), none), fault(api.ErrShape)},
		{"f of too few", at(frac(2, 2, "1"), none), fault(api.ErrShape)},
		{"f of thirteen rows", at(frac(13, 2), none), fault(api.ErrRange)},
		{"q of one row", at(unit(2), square("1")), fault(api.ErrShape)},
		{"q of three rows", at(unit(2), unit(3)), fault(api.ErrShape)},
		{"q not square", at(unit(2), frac(2, 1, "1", "1")), fault(api.ErrShape)},
		{"q of too many", at(unit(2), frac(2, 2, "1", "1", "1", "1", "1")), fault(api.ErrShape)},
		{"q of columns below 0", at(unit(2), frac(2, -1)), fault(api.ErrRange)},
		{"q not symmetric", at(unit(2), square("1", "1/2", "1/3", "1")), fault(api.ErrFracSym)},
		{"f not symmetric", at(square("1", "1", "0", "1"), none), answer{s: state(fracs("1/3", "-2/3"), "4", "3/2", "3/2", "1")}},
		{"P just short enough", of1("0", power(api.MaxBits, -2), "1", "1"), answer{s: one("0", longest())}},
		{"P too long", of1("0", longest(), "1", "1"), fault(api.ErrLong)},
		{"P too long below the stroke", of1("0", "1", "1/2", textOver("1", power(api.MaxBits-1, -1))), fault(api.ErrLong)},
		{"X just short enough", of1(power(api.MaxBits-1, -1), "1", "2", "1"), answer{s: one(power(api.MaxBits, -2), "5")}},
		{"X too long", of1(power(api.MaxBits-1, 0), "1", "2", "1"), fault(api.ErrLong)},
		{"too long, and not positive", question{s: state(fracs("0", "0"), "1", "0", "0", "1"), f: diagonal(power(40000, 0), "0"), q: none}, fault(api.ErrCovPos)},
		{"X too long, P not positive", question{s: state(fracs(power(40000, 0), "0"), under(power(65000, 0)), "0", "0", "1"), f: diagonal(power(40000, 0), "0"), q: none}, fault(api.ErrCovPos)},
		{"too long across the diagonal alone", question{s: state(fracs("0", "0"), "1", under(power(30001, 0)), under(power(30001, 0)), "1"), f: diagonal(under(power(30001, 0)), under(power(30001, 0))), q: square("1", under(longest()), under(longest()), "1")}, fault(api.ErrLong)},
	}
	for _, f := range noFractions() {
		edges = append(edges, edge{"in f " + name(f), at(square("1", "0", f, "1"), none), fault(api.ErrFrac)}, edge{"in q " + name(f), at(unit(2), square("1", f, f, "1")), fault(api.ErrFrac)})
	}
	holdEach(t, "Predict", edges)
	hold(t, told3{"twelve", saysState(truth.Predict(twelve(), unit(12), unit(12))), answer{s: api.FracState{X: twelve().X, P: diagonal(repeated[api.Frac](12, "5")...)}}})
}

// rowEdges are rows that are refused, of a state or an information of two numbers.
func rowEdges() []edge {
	at := func(r, z api.Frac, h ...api.Frac) question { return question{h: h, r: r, z: z} }
	out := []edge{
		{"a row too short", at("1", "1", "1"), fault(api.ErrShape)},
		{"a row too long", at("1", "1", "1", "1", "1"), fault(api.ErrShape)},
		{"no row", at("1", "1"), fault(api.ErrShape)},
		{"a row too long, and no fraction", at("1", "1", "1", "1", "x"), fault(api.ErrShape)},
		{"a variance of 0", at("0", "1", "1", "1"), fault(api.ErrVariance)},
		{"a variance below 0", at("-1/9", "1", "1", "1"), fault(api.ErrVariance)},
		{"a row of noughts with a variance of 0", at("0", "1", "0", "0"), fault(api.ErrVariance)},
		{"a variance of 0, and no value", at("0", "x", "1", "1"), fault(api.ErrVariance)},
		{"no row and no variance", at("x", "1", "1", "x"), fault(api.ErrFrac)},
		{"no row and a variance of 0", at("0", "1", "1", "2/4"), fault(api.ErrFrac)},
	}
	for _, f := range noFractions() {
		out = append(out,
			edge{"in h " + name(f), at("1", "1", "1", f), fault(api.ErrFrac)},
			edge{"as variance " + name(f), at(f, "1", "1", "1"), fault(api.ErrFrac)},
			edge{"as value " + name(f), at("1", f, "1", "1"), fault(api.ErrFrac)},
		)
	}
	for i := range out {
		out[i].q.s = fit()
		out[i].q.a = api.FracInfo{Y: fit().P, V: fit().X}
		// As the only row of Rows, and of a state of as many numbers as the row has: h as a matrix has no row that is too short.
		out[i].q.rows, out[i].q.rs, out[i].q.zs = frac(1, len(out[i].q.h), out[i].q.h...), fracs(out[i].q.r), fracs(out[i].q.z)
	}
	return out
}

// P18.3, P18.4, P18.5: rows that are refused.
func TestEdgesOfRow(t *testing.T) {
	for _, name := range []string{"Update", "Short", "Score", "Learn"} {
		holdEach(t, name, rowEdges())
	}
}

// P18.3: both forms of the update: the same, by hand and at the ends.
func TestEdgesOfUpdate(t *testing.T) {
	at := func(s api.FracState, r, z api.Frac, h ...api.Frac) question {
		return question{s: s, h: h, r: r, z: z}
	}
	// p is a / b, of which S is too great, though P' is not.
	a, b := power(30000, 3), power(30000, 1)
	p := textOver(a, b)
	share := textOver(a, sum(a, b))
	edges := []edge{
		{"without rows", at(api.FracState{}, "1", "1"), answer{}},
		{"by hand", at(state(fracs("1", "2"), "2", "1", "1", "2"), "1", "4", "1", "0"), answer{s: state(fracs("3", "3"), "2/3", "1/3", "1/3", "5/3")}},
		{"a row below 0", at(one("0", "4"), "1", "5", "-1"), answer{s: one("-4", "4/5")}},
		{"of fractions", at(one("1/2", "1/3"), "1/5", "7", "2/3"), answer{s: one("447/94", "9/47")}},
		{"a row of noughts", at(fit(), "1/7", "9", "0", "0"), answer{s: fit()}},
		{"a value of 0", at(one("3", "1"), "1", "0", "1"), answer{s: one("3/2", "1/2")}},
		{"a great variance", at(one("0", "1"), longest(), "0", "1"), fault(api.ErrLong)},
		{"X just short enough", at(one("2", "16"), "1", power(api.MaxBits-1, -1), "1/4"), answer{s: one(longest(), "8")}},
		{"X too long", at(one("2", "16"), "1", power(api.MaxBits-1, 0), "1/4"), fault(api.ErrLong)},
		{"P just short enough", at(one("0", "1"), under(power(api.MaxBits, -2)), "0", "1"), answer{s: one("0", under(longest()))}},
		{"P too long", at(one("0", "1"), under(longest()), "0", "1"), fault(api.ErrLong)},
		{"too long in between", at(one("0", p), power(40000, 0), power(20000, 0), power(20000, 0)), answer{s: one(share, share)}},
		{"all too long", at(one(longest(), textOver(longest(), "7")), longest(), "-"+longest(), longest()), fault(api.ErrLong)},
	}
	holdEach(t, "Update", edges)
	holdEach(t, "Short", edges)
	hold(t, told3{"Score of what is too long in between", saysThree(truth.Score(one("0", p), fracs(power(20000, 0)), power(40000, 0), power(20000, 0))), fault(api.ErrLong)})
	for _, of := range []func(api.FracState, []api.Frac, api.Frac, api.Frac) (api.FracState, api.Errno){truth.Update, truth.Short} {
		got := saysState(of(twelve(), with(repeated[api.Frac](12, "0"), 11, "1"), "4", "1"))
		want := twelve()
		want.X[11], want.P.At[143] = "2/3", "2"
		hold(t, told3{"twelve", got, answer{s: want}})
	}
}

// sum is that of whole numbers.
func sum(a, b api.Frac) api.Frac {
	x := ratOf(a)
	return textOf(x.Add(x, ratOf(b)))
}

// P18.3: Score.
func TestEdgesOfScore(t *testing.T) {
	at := func(x, p, h, r, z api.Frac) question { return question{s: one(x, p), h: fracs(h), r: r, z: z} }
	three := func(y, v, score api.Frac) answer { return answer{three: [3]api.Frac{y, v, score}} }
	holdEach(t, "Score", []edge{
		{"without rows", question{h: nil, r: "2", z: "-4"}, three("-4", "2", "8")},
		{"below 0", at("7", "4", "1", "1", "5"), three("-2", "5", "4/5")},
		{"just so", at("7", "4", "1", "1", "7"), three("0", "5", "0")},
		{"a row of noughts", at("7", "4", "0", "1/3", "2"), three("2", "1/3", "12")},
		{"of fractions", at("1/2", "1/3", "2/3", "1/5", "7"), three("20/3", "47/135", "6000/47")},
		{"just short enough", at("-1", power(api.MaxBits, -2), "1", "1", power(api.MaxBits, -2)), three(longest(), longest(), longest())},
		{"y too long", at("-1", power(api.MaxBits, -2), "1", "1", longest()), fault(api.ErrLong)},
		{"S too long", at("-1", longest(), "1", "1", "1"), fault(api.ErrLong)},
		{"the score too long", at("0", "1", "1", "1", power(api.MaxBits, -2)), fault(api.ErrLong)},
		{"too long in between", at("0", power(60000, -1), "1", "1", power(40000, 0)), three(power(40000, 0), power(60000, 0), power(20000, 0))},
	})
}

// P18.4: no rows, one, and some of which one is refused.
func TestEdgesOfRows(t *testing.T) {
	s := one("0", "4")
	at := func(rows int, r, z []api.Frac, h ...api.Frac) question {
		return question{s: s, rows: frac(rows, 1, h...), rs: r, zs: z}
	}
	ones := fracs("1", "1", "1")
	// What is known of a number of variance 1 behind the rows 1 / b and (b - 1) / b is 2: but neither of them alone can be told.
	b := longest()
	between := question{s: one("0", "2"), rows: frac(3, 1, ones...), rs: fracs("2", b, textOver(b, power(api.MaxBits, -2))), zs: fracs("0", "0", "0")}
	edges := []edge{
		{"without rows", at(0, nil, nil), answer{s: s}},
		{"of nothing", question{rows: frac(2, 0), rs: fracs("1", "1"), zs: fracs("1", "1")}, answer{}},
		{"without rows, columns as X", question{s: fit(), rows: frac(0, 2)}, answer{s: fit()}},
		{"one row", at(1, fracs("1"), fracs("5"), "1"), answer{s: one("4", "4/5")}},
		{"two rows", at(2, fracs("1", "1"), fracs("5", "5"), "1", "1"), answer{s: one("40/9", "4/9")}},
		{"the first refused", at(3, fracs("0", "0", "x"), ones, ones...), faultAt(0, api.ErrVariance)},
		{"the middle one", at(3, fracs("1", "-1", "x"), ones, ones...), faultAt(1, api.ErrVariance)},
		{"the last one", at(3, fracs("1", "1", "2/4"), ones, ones...), faultAt(2, api.ErrFrac)},
		{"the first value", at(3, ones, fracs("x", "1", "x"), ones...), faultAt(0, api.ErrFrac)},
		{"the middle value", at(3, ones, fracs("1", "x", "1"), ones...), faultAt(1, api.ErrFrac)},
		{"the last value", at(3, ones, fracs("1", "1", ""), ones...), faultAt(2, api.ErrFrac)},
		{"the last one too long", at(3, fracs("1", "1", under(longest())), ones, ones...), faultAt(2, api.ErrLong)},
		{"too long in between", between, faultAt(1, api.ErrLong)},
		{"r too short", at(3, ones[:2], ones, ones...), fault(api.ErrShape)},
		{"r too long", at(3, append(ones, "1"), ones, ones...), fault(api.ErrShape)},
		{"z too short", at(3, ones, ones[:2], ones...), fault(api.ErrShape)},
		{"z too long", at(3, ones, append(ones, "1"), ones...), fault(api.ErrShape)},
		{"r and z without h", at(0, ones, ones), fault(api.ErrShape)},
		{"h of two columns", question{s: s, rows: frac(1, 2, "1", "1"), rs: fracs("1"), zs: fracs("1")}, fault(api.ErrShape)},
		{"h of no columns", question{s: s, rows: frac(1, 0), rs: fracs("1"), zs: fracs("1")}, fault(api.ErrShape)},
		{"no rows of other columns", question{s: s, rows: frac(0, 2)}, fault(api.ErrShape)},
		{"h of thirteen rows", question{s: s, rows: frac(13, 1, repeated[api.Frac](13, "1")...), rs: repeated[api.Frac](13, "1"), zs: repeated[api.Frac](13, "1")}, fault(api.ErrRange)},
		{"h of rows below 0", at(-1, nil, nil), fault(api.ErrRange)},
		{"h of too few", at(2, ones[:2], ones[:2], "1"), fault(api.ErrShape)},
		{"the last of h is none", at(3, fracs("0", "1", "1"), ones, "1", "1", "4/2"), fault(api.ErrFrac)},
	}
	holdEach(t, "Rows", edges)
	all := question{s: s, rows: frac(12, 1, repeated[api.Frac](12, "1")...), rs: repeated[api.Frac](12, "4"), zs: repeated[api.Frac](12, "13")}
	holdEach(t, "Rows", []edge{{"twelve", all, answer{s: one("12", "4/13")}}})
}

// P18.5: informations at their ends.
func TestEdgesOfInfo(t *testing.T) {
	at := func(x []api.Frac, p ...api.Frac) question {
		return question{s: state(x, p...), a: info(x, p...)}
	}
	half, great := power(32768, 0), power(40000, 0)
	edges := []struct {
		what string
		q    question
		x    []api.Frac
		p    api.FracMat
		err  api.Errno
	}{
		{"without rows", question{}, nil, square(), api.OK},
		{"one number", at(fracs("3"), "4"), fracs("3/4"), square("1/4"), api.OK},
		{"two", at(fracs("1", "2"), "2", "1", "1", "1"), fracs("-1", "3"), square("1", "-1", "-1", "2"), api.OK},
		{"just short enough", at(fracs("0", "0"), half, "1", "1", half), fracs("0", "0"), square(textOver(half, longest()), "-"+under(longest()), "-"+under(longest()), textOver(half, longest())), api.OK},
		{"too long", at(fracs("0", "0"), half, "1", "1", power(32768, 1)), nil, square(), api.ErrLong},
		{"the list just short enough", at(fracs(power(api.MaxBits-1, -1)), "1/2"), fracs(power(api.MaxBits, -2)), square("2"), api.OK},
		{"the list too long", at(fracs(power(api.MaxBits-1, 0)), "1/2"), nil, square(), api.ErrLong},
		{"the longest", at(fracs("0"), longest()), fracs("0"), square(under(longest())), api.OK},
		{"too long in between", at(fracs("0", great), great, "0", "0", great), fracs("0", "1"), square(under(great), "0", "0", under(great)), api.OK},
	}
	for _, e := range edges {
		want, back := fault(e.err), fault(e.err)
		if e.err == api.OK {
			want.a, back.s = api.FracInfo{Y: e.p, V: e.x}, api.FracState{X: e.x, P: e.p}
		}
		holdEach(t, "Info", []edge{{e.what, e.q, want}})
		holdEach(t, "Back", []edge{{e.what, e.q, back}})
	}
	twelve := at(nil)
	twelve.s = api.FracState{X: repeated[api.Frac](12, "1"), P: diagonal(repeated[api.Frac](12, "1/3")...)}
	twelve.a = api.FracInfo{V: twelve.s.X, Y: twelve.s.P}
	holdEach(t, "Info", []edge{{"twelve", twelve, answer{a: api.FracInfo{Y: diagonal(repeated[api.Frac](12, "3")...), V: repeated[api.Frac](12, "3")}}}})
	holdEach(t, "Back", []edge{{"twelve", twelve, answer{s: api.FracState{P: diagonal(repeated[api.Frac](12, "3")...), X: repeated[api.Frac](12, "3")}}}})
}

// P18.5: Learn.
func TestEdgesOfLearn(t *testing.T) {
	at := func(a api.FracInfo, r, z api.Frac, h ...api.Frac) question { return question{a: a, h: h, r: r, z: z} }
	of1 := func(v, y api.Frac) api.FracInfo { return info(fracs(v), y) }
	great := power(40000, 0)
	holdEach(t, "Learn", []edge{
		{"without rows", at(api.FracInfo{}, "1", "1"), answer{}},
		{"by hand", at(info(fracs("1", "2"), "1", "0", "0", "1"), "2", "5", "1", "-3"), answer{a: info(fracs("7/2", "-11/2"), "3/2", "-3/2", "-3/2", "11/2")}},
		{"a row of noughts", at(of1("3", "1/2"), "1", "7", "0"), answer{a: of1("3", "1/2")}},
		{"Y just short enough", at(of1("0", power(api.MaxBits, -2)), "1", "0", "1"), answer{a: of1("0", longest())}},
		{"Y too long", at(of1("0", longest()), "1", "0", "1"), fault(api.ErrLong)},
		{"V just short enough", at(of1(power(api.MaxBits, -2), "1"), "1", "1", "1"), answer{a: of1(longest(), "2")}},
		{"V too long", at(of1(longest(), "1"), "1", "1", "1"), fault(api.ErrLong)},
		{"too long in between", at(of1("0", "1"), power(60000, 0), great, great), answer{a: of1(power(20000, 0), sum(power(20000, 0), "1"))}},
	})
}

// P18.6: what a box may be.
func TestEdgesOfCheckBox(t *testing.T) {
	at := func(x []api.Interval, p ...api.Interval) question { return question{b: box(x, p...)} }
	p1 := point(1)
	four := points(4, 1, 1, 4)
	edges := []edge{
		{"without intervals", question{}, answer{}},
		{"one", at(points(0), between(1, 2)), answer{}},
		{"two", at(points(0, 1), four...), answer{}},
		{"not positive", at(points(0, 1), points(-4, 9, 9, 0)...), answer{}},
		{"all numbers", at(intervals(between(-inf, inf)), between(-inf, inf)), answer{}},
		{"infinite ends", at(intervals(between(most, inf)), between(-inf, -most)), answer{}},
		{"noughts of either sign", at(intervals(between(0, minus)), between(minus, 0)), answer{}},
		{"twelve", at(repeated(12, p1), repeated(144, p1)...), answer{}},
		{"thirteen", at(repeated(13, p1), repeated(169, p1)...), fault(api.ErrRange)},
		{"thirteen without P", at(repeated(13, p1)), fault(api.ErrRange)},
		{"a thousand", at(repeated(1000, p1)), fault(api.ErrRange)},
		{"too few in P", at(points(0, 1), four[:3]...), fault(api.ErrShape)},
		{"too many in P", at(points(0, 1), append(four, p1)...), fault(api.ErrShape)},
		{"no P", at(points(0)), fault(api.ErrShape)},
		{"no X", at(nil, p1), fault(api.ErrShape)},
		{"unlike below", at(points(0, 1), p1, between(1, 2), between(1.5, 2), p1), fault(api.ErrBox)},
		{"unlike above", at(points(0, 1), p1, between(1, 2), between(1, math.Nextafter(2, 3)), p1), fault(api.ErrBox)},
		{"unlike far off", at(points(0, 1, 2), p1, p1, p1, p1, p1, p1, between(1, 2), p1, p1), fault(api.ErrBox)},
		{"+0 and -0 across the diagonal", at(points(0, 1), p1, between(0, 1), between(minus, 1), p1), answer{}},
		{"-0 and +0 above", at(points(0, 1), p1, between(-1, minus), between(-1, 0), p1), answer{}},
	}
	for _, a := range noIntervals() {
		edges = append(edges,
			edge{"in X", at(intervals(p1, a), four...), fault(api.ErrBox)},
			edge{"first in X", at(intervals(a, p1), four...), fault(api.ErrBox)},
			edge{"in P", at(points(0, 1), p1, p1, p1, a), fault(api.ErrBox)},
			edge{"first in P", at(points(0, 1), a, p1, p1, p1), fault(api.ErrBox)},
			edge{"twice in P", at(points(0, 1), p1, a, a, p1), fault(api.ErrBox)},
		)
	}
	holdEach(t, "CheckBox", edges)
	for _, e := range edges {
		if e.want.err == api.OK {
			continue
		}
		hold(t, told3{"BoxPredict, " + e.what, saysBox(truth.BoxPredict(e.q.b, numbers(1), numbers(1))), e.want})
		hold(t, told3{"BoxUpdate, " + e.what, saysBox(truth.BoxUpdate(e.q.b, list(1), 1, 1)), e.want})
		for n := range 3 {
			s := api.State{X: make([]float64, n), P: diagonalNumbers(repeated(n, 1.0)...)}
			if truth.Inside(e.q.b, s) || truth.Holds(e.q.b, truthOf(t, s)) {
				t.Errorf("%s holds %+v", e.what, s)
			}
		}
	}
}

// P18.6: BoxOf.
func TestEdgesOfBoxOf(t *testing.T) {
	holdEach(t, "BoxOf", []edge{
		{"without rows", question{}, answer{}},
		{"points", question{n: numberState(list(-1, 0.1), 2, -1, -1, most)}, answer{b: box(points(-1, 0.1), points(2, -1, -1, most)...)}},
		{"-0", question{n: numberState(list(minus, 0), 1, minus, minus, 1)}, answer{b: box(points(0, 0), points(1, 0, 0, 1)...)}},
		{"the least", question{n: numberState(list(-least), least)}, answer{b: box(points(-least), point(least))}},
	})
	got := saysBox(truth.BoxOf(api.State{X: make([]float64, 12), P: diagonalNumbers(repeated(12, 1.0)...)}))
	if got.err != api.OK || len(got.b.X) != 12 || len(got.b.P) != 144 {
		t.Error("twelve", got)
	}
}

// P18.6: what a box holds: numbers at its ends, and just outside.
func TestEdgesOfHolding(t *testing.T) {
	third := between(math.Nextafter(1.0/3, 0), 1.0/3)
	tiny := under(power(2000, 0))
	holds := []struct {
		what string
		b    api.Box
		s    api.FracState
		is   bool
	}{
		{"nothing", api.Box{}, api.FracState{}, true},
		{"inside", box(intervals(between(0, 1)), between(1, 2)), one("1/2", "3/2"), true},
		{"at the lower ends", box(intervals(between(0, 1)), between(1, 2)), one("0", "1"), true},
		{"at the upper ends", box(intervals(between(0, 1)), between(1, 2)), one("1", "2"), true},
		{"below in X", box(intervals(between(0, 1)), between(1, 2)), one("-"+tiny, "1"), false},
		{"above in X", box(intervals(between(0, 1)), between(1, 2)), one(textOver(power(2000, 1), power(2000, 0)), "1"), false},
		{"below in P", box(intervals(between(0, 1)), between(1, 2)), one("0", textOver(power(2000, -1), power(2000, 0))), false},
		{"above in P", box(intervals(between(0, 1)), between(1, 2)), one("0", textOver(power(2001, 1), power(2000, 0))), false},
		{"a third between numbers", box(intervals(between(third.Lo, math.Nextafter(third.Hi, 1))), point(1)), one("1/3", "1"), true},
		{"a third below one", box(intervals(between(math.Nextafter(1.0/3, 1), 1)), point(1)), one("1/3", "1"), false},
		{"any number", box(intervals(between(-inf, inf)), between(-inf, inf)), one(longest(), longest()), true},
		{"above all numbers", box(intervals(between(0, inf)), between(0, inf)), one(longest(), longest()), true},
		{"below all numbers", box(intervals(between(-inf, 0)), between(0, inf)), one("-"+longest(), longest()), true},
		{"below where it must not", box(intervals(between(0, inf)), between(0, inf)), one("-"+tiny, "1"), false},
		{"above where it must not", box(intervals(between(-inf, 0)), between(0, inf)), one(tiny, "1"), false},
		{"across the diagonal", box(points(0, 0), between(1, 2), between(-1, 0), between(-1, 0), between(1, 2)), state(fracs("0", "0"), "1", "-1/2", "-1/2", "1"), true},
		{"not across the diagonal", box(points(0, 0), between(1, 2), between(-1, 0), between(-1, 0), between(1, 2)), state(fracs("0", "0"), "1", "1/2", "1/2", "1"), false},
		{"the last one not", box(points(0, 0), between(1, 2), between(-1, 0), between(-1, 0), between(1, 2)), state(fracs("0", "0"), "1", "0", "0", "3"), false},
		{"more means", box(points(0), point(1)), state(fracs("0", "0"), "1", "0", "0", "1"), false},
		{"fewer means", box(points(0, 0), points(1, 0, 0, 1)...), one("0", "1"), false},
		{"no state", box(points(0), between(-1, 1)), one("0", "0"), false},
		{"no fraction", box(points(0), point(1)), one("-0", "1"), false},
		{"not symmetric", box(points(0, 0), between(0, 9), between(0, 9), between(0, 9), between(0, 9)), state(fracs("0", "0"), "2", "1", "0", "2"), false},
		{"no box", box(points(0), between(2, 1)), one("0", "1"), false},
		{"nothing, of something", api.Box{}, one("0", "1"), false},
		{"something, of nothing", box(points(0), point(1)), api.FracState{}, false},
	}
	for _, c := range holds {
		if truth.Holds(c.b, c.s) != c.is || wordsOfHolds(c.b, c.s).yes != c.is {
			t.Errorf("Holds, %s: not %v", c.what, c.is)
		}
	}
	unit := box(intervals(between(0, 1)), between(1, 2))
	inside := []struct {
		what string
		b    api.Box
		s    api.State
		is   bool
	}{
		{"nothing", api.Box{}, api.State{}, true},
		{"inside", unit, numberState(list(0.5), 1.5), true},
		{"at the lower ends", unit, numberState(list(minus), 1), true},
		{"at the upper ends", unit, numberState(list(1), 2), true},
		{"below in X", unit, numberState(list(-least), 1), false},
		{"above in X", unit, numberState(list(math.Nextafter(1, 2)), 1), false},
		{"below in P", unit, numberState(list(0), math.Nextafter(1, 0)), false},
		{"above in P", unit, numberState(list(0), math.Nextafter(2, 3)), false},
		{"any number", box(intervals(between(-inf, inf)), between(-inf, inf)), numberState(list(-most), most), true},
		{"the last one not", box(points(0, 0), between(1, 2), point(0), point(0), between(1, 2)), numberState(list(0, 0), 1, 0, 0, 3), false},
		{"across the diagonal", box(points(0, 0), between(1, 2), between(0, 0.5), between(0, 0.5), between(1, 2)), numberState(list(0, 0), 1, 0.75, 0.75, 1), false},
		{"more means", box(points(0), point(1)), numberState(list(0, 0), 1, 0, 0, 1), false},
		{"fewer means", box(points(0, 0), points(1, 0, 0, 1)...), numberState(list(0), 1), false},
		{"not positive", box(points(0), between(-1, 1)), numberState(list(0), 0), false},
		{"not finite", box(intervals(between(-inf, inf)), point(1)), numberState(list(inf), 1), false},
		{"the NaN", box(intervals(between(-inf, inf)), point(1)), numberState(list(nan), 1), false},
		{"not symmetric", box(points(0, 0), points(1, 0, 0, 1)...), numberState(list(0, 0), 1, 0, minus, 1), false},
		{"no box", box(intervals(between(inf, -inf)), point(1)), numberState(list(0), 1), false},
	}
	for _, c := range inside {
		if truth.Inside(c.b, c.s) != c.is || wordsOfInside(c.b, c.s).yes != c.is {
			t.Errorf("Inside, %s: not %v", c.what, c.is)
		}
	}
}

// P18.7: a box that is moved: what kalman.Predict refuses, and some by hand.
func TestEdgesOfBoxPredict(t *testing.T) {
	b := box(intervals(between(1, 2), between(-1, 1)), between(4, 5), between(0, 1), between(0, 1), between(4, 5))
	at := func(f, q api.Mat) question { return question{b: b, nf: f, nq: q} }
	unit, none := numbers(1, 0, 0, 1), numbers(0, 0, 0, 0)
	of1 := func(x, p api.Interval, f, q float64) question {
		return question{b: box(intervals(x), p), nf: numbers(f), nq: numbers(q)}
	}
	edges := []edge{
		{"without intervals", question{}, answer{}},
		{"one", of1(between(-1, 3), point(4), 2, 2), answer{b: box(intervals(between(-2, 6)), point(18))}},
		{"standing still", at(unit, none), answer{b: b}},
		{"by hand", at(numbers(1, 1, 0, 1), numbers(0, 0, 0, 1)), answer{b: box(intervals(between(0, 3), between(-1, 1)), between(8, 12), between(4, 6), between(4, 6), between(5, 6))}},
		{"outward", of1(point(1), point(1), 1, 0x1p-60), answer{b: box(points(1), between(1, math.Nextafter(1, 2)))}},
		{"noughts are +0", of1(between(minus, 1), between(minus, 1), 1, minus), answer{b: box(intervals(between(0, 1)), between(0, 1))}},
		{"it goes over", of1(point(most), point(1), 2, most), answer{b: box(intervals(between(most, inf)), between(most, inf))}},
		{"a noise below 0", of1(point(0), point(1), 1, -3), answer{b: box(points(0), point(-2))}},
		{"f 0 of all numbers", of1(between(-inf, inf), between(-inf, inf), 0, 0), answer{b: box(points(0), point(0))}},
		{"f of one row", at(numbers(1), none), fault(api.ErrShape)},
		{"f of three rows", at(diagonalNumbers(1, 1, 1), none), fault(api.ErrShape)},
		{"f not square", at(mat(2, 1, 1, 1), none), fault(api.ErrShape)},
		{"f of too few", at(mat(2, 2, 1), none), fault(api.ErrShape)},
		{"f of thirteen rows", at(mat(13, 2), none), fault(api.ErrRange)},
		{"q of one row", at(unit, numbers(1)), fault(api.ErrShape)},
		{"q not square", at(unit, mat(1, 2, 1, 1)), fault(api.ErrShape)},
		{"q of columns below 0", at(unit, mat(2, -1)), fault(api.ErrRange)},
		{"q not symmetric", at(unit, numbers(1, 0.5, math.Nextafter(0.5, 1), 1)), fault(api.ErrCovSym)},
		{"q not symmetric by a nought", at(unit, numbers(1, 0, minus, 1)), fault(api.ErrCovSym)},
	}
	for _, x := range unfit() {
		edges = append(edges, edge{"not finite in f", at(numbers(1, x, 0, 1), none), fault(api.ErrNumber)}, edge{"not finite in q", at(unit, numbers(1, 0, 0, x)), fault(api.ErrNumber)})
	}
	holdEach(t, "BoxPredict", edges)
	// Whatever kalman.Predict says of f and q, as it says it of a state that may be.
	s := numberState(list(1, 2), 4, 1, 1, 4)
	for _, e := range edges[9:] {
		if _, err := kalman.Predict(s, e.q.nf, e.q.nq); err != e.want.err {
			t.Errorf("kalman.Predict, %s: %d, not %d", e.what, err, e.want.err)
		}
	}
}

// P18.8: a box that is told a row: what kalman.Update refuses, what is too wide, and some by hand.
func TestEdgesOfBoxUpdate(t *testing.T) {
	of1 := func(x, p api.Interval, h, r, z float64) question {
		return question{b: box(intervals(x), p), nh: list(h), nr: r, nz: z}
	}
	two := func(r, z float64, h ...float64) question {
		return question{b: box(points(1, 2), points(4, 1, 1, 4)...), nh: h, nr: r, nz: z}
	}
	wide := box(points(0), between(-4, 4))
	edges := []edge{
		{"without intervals", question{nr: 1, nz: 7}, answer{}},
		{"points", of1(point(0), point(1), 1, 1, 4), answer{b: box(points(2), point(0.5))}},
		{"a row of noughts", two(1, 5, 0, minus), answer{b: box(points(1, 2), points(4, 1, 1, 4)...)}},
		{"S from 0 on", of1(point(0), between(-1, 1), 1, 1, 4), fault(api.ErrWide)},
		{"S from below 0 on", of1(point(0), between(-2, 1), 1, 1, 4), fault(api.ErrWide)},
		{"S below 0", of1(point(0), between(-3, -2), 1, 1, 4), fault(api.ErrWide)},
		{"S of all numbers", of1(point(0), between(-inf, inf), 1, 1, 4), fault(api.ErrWide)},
		{"a row too short", two(1, 1, 1), fault(api.ErrShape)},
		{"a row too long", two(1, 1, 1, 1, 1), fault(api.ErrShape)},
		{"no row", two(1, 1), fault(api.ErrShape)},
		{"variance 0", two(0, 1, 1, 1), fault(api.ErrVariance)},
		{"variance -0", two(minus, 1, 1, 1), fault(api.ErrVariance)},
		{"variance below 0", two(-least, 1, 1, 1), fault(api.ErrVariance)},
		{"a box too wide, a row too long", question{b: wide, nh: list(1, 1), nr: 1, nz: 1}, fault(api.ErrShape)},
		{"a box too wide, variance 0", question{b: wide, nh: list(1), nr: 0, nz: 1}, fault(api.ErrVariance)},
		{"a box too wide, a value not finite", question{b: wide, nh: list(1), nr: 1, nz: nan}, fault(api.ErrNumber)},
	}
	for _, x := range unfit() {
		edges = append(edges,
			edge{"not finite in h", two(1, 1, 1, x), fault(api.ErrNumber)},
			edge{"a variance not finite", two(x, 1, 1, 1), fault(api.ErrNumber)},
			edge{"a value not finite", two(1, x, 1, 1), fault(api.ErrNumber)},
			edge{"variance 0, a value not finite", two(0, x, 1, 1), fault(api.ErrVariance)},
		)
	}
	holdEach(t, "BoxUpdate", edges)
	for _, e := range edges[7:13] {
		if _, _, err := kalman.Update(numberState(list(1, 2), 4, 1, 1, 4), e.q.nh, e.q.nr, e.q.nz); err != e.want.err {
			t.Errorf("kalman.Update, %s: %d, not %d", e.what, err, e.want.err)
		}
	}
	// Just narrow enough: S from the least number above 0 on.
	for _, q := range []question{of1(point(0), between(-1+0x1p-53, 1), 1, 1, 4), of1(point(0), between(0, inf), 1, least, 4), of1(between(-inf, inf), point(1), 1, 1, 4)} {
		got := saysBox(truth.BoxUpdate(q.b, q.nh, q.nr, q.nz))
		hold(t, told3{"just narrow enough", got, reckoned(func() answer { return wordsOfBoxUpdate(q.b, q.nh, q.nr, q.nz) })})
		if got.err != api.OK || !truth.Inside(got.b, numberState(list(2), 0.5)) {
			t.Errorf("just narrow enough: %+v", got)
		}
	}
	b := box(repeated(12, point(1)), repeated(144, point(0))...)
	for i := range 12 {
		b.P[i*13] = point(4)
	}
	got := saysBox(truth.BoxUpdate(b, with(make([]float64, 12), 11, 1.0), 4, 3))
	b.X[11], b.P[143] = point(2), point(2)
	hold(t, told3{"twelve", got, answer{b: b}})
}

// P1: what is long in each of its fractions: the calls end, and say the same in all three forms.
func TestLong(t *testing.T) {
	r := rand.New(rand.NewSource(184))
	answered, refused := 0, 0
	for _, bits := range []int{300, 2000, 9000, 20000, 65000} {
		for n := 1; n <= 2; n++ {
			f := func() api.Frac { return longText(r, bits/(n*n)) }
			var q question
			for range n {
				q.s.X, q.h = append(q.s.X, f()), append(q.h, f())
			}
			q.s.P = frac(n, n)
			for i := range n * n {
				q.s.P.At = append(q.s.P.At, "0")
				if i%(n+1) == 0 {
					q.s.P.At[i] = f()
				}
			}
			q.r, q.z = f(), f()
			long, short := saysState(truth.Update(q.s, q.h, q.r, q.z)), saysState(truth.Short(q.s, q.h, q.r, q.z))
			hold(t, told3{"long and short", long, short})
			if bits < 9000 {
				hold(t, told3{"by the words", long, reckoned(func() answer { return wordsOfUpdate(q.s, q.h, q.r, q.z) })})
			}
			if long.err == api.OK {
				answered++
			} else {
				hold(t, told3{"too long", long, fault(api.ErrLong)})
				refused++
			}
		}
	}
	enough(t, "answered", answered, 4)
	enough(t, "refused", refused, 2)
}

// longText is a fraction above 0 of some bits above and below.
func longText(r *rand.Rand, bits int) api.Frac {
	above, below := chanceWhole(r, bits), chanceWhole(r, bits)
	one := ratOf("1").Num()
	x := ratOf("1")
	return textOf(x.SetFrac(above.Add(above, one), below.Add(below, one)))
}
