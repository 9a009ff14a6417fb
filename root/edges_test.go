package root_test

import (
	"math"
	"testing"

	"binnacle/api"
	"binnacle/root"
)

// told is a case: what was answered, and what should have been.
type told struct {
	what      string
	got, want answer
}

func hold(t *testing.T, cases ...told) {
	t.Helper()
	for _, c := range cases {
		if !c.got.is(c.want) {
			t.Errorf("%s: %+v, not %+v", c.what, c.got, c.want)
		}
	}
}

func isRoot(x []float64, l ...float64) answer { return answer{s: rootOf(x, l...)} }

func isNumber(x float64) answer { return answer{x: x} }

func askCheck(s api.Root) answer { return fault(root.Check(s)) }

func askOf(s api.State) answer { return saysRoot(root.Of(s)) }

func askState(s api.Root) answer { return saysState(root.State(s)) }

func askPredict(s api.Root, f, g api.Mat) answer { return saysRoot(root.Predict(s, f, g)) }

func askMove(s api.Root, m api.Motion, ticks int64) answer { return saysRoot(root.Move(s, m, ticks)) }

func askForesee(s api.Root, h []float64, r float64) answer { return saysTwo(root.Foresee(s, h, r)) }

func askUpdate(s api.Root, h []float64, r, z float64) answer {
	return saysStep(root.Update(s, h, r, z))
}

func askRows(s api.Root, h api.Mat, r, z []float64) answer {
	return saysRows(root.Rows(s, h, r, z))
}

func askDistance(s api.Root, x []float64) answer { return saysNumber(root.Distance(s, x)) }

func askTrace(s api.Root) answer { return saysNumber(root.Trace(s)) }

// one is a root of one number.
func one(x, l float64) api.Root { return rootOf(list(x), l) }

// two is a root of two.
func two() api.Root { return rootOf(list(1, 2), 1, 0, 0, 1) }

// near tells whether numbers are those that the chapter writes down, but for a few last bits.
func near(t *testing.T, what string, got []float64, want ...float64) {
	t.Helper()
	if len(got) != len(want) {
		t.Fatal(what, got)
	}
	for i := range got {
		if math.Abs(got[i]-want[i]) > 0x1p-50*max(1, math.Abs(want[i])) {
			t.Error(what, got)
		}
	}
}

// The chapter's examples, as they stand.
func TestExamples(t *testing.T) {
	p := math.Sqrt(5)
	updated := answer{s: one(4, 1/p*2), steps: []api.Step{{Innov: 5, Var: 5, Score: 5, Gain: list(0.8)}}}
	if l := 1 / p * 2; l < 0.894 || l >= 0.895 {
		t.Fatal(l)
	}
	hold(t,
		told{"1: foreseen", askForesee(one(0, 2), list(1), 1), answer{x: 0, y: 5}},
		told{"1: updated", askUpdate(one(0, 2), list(1), 1, 5), updated},
		told{"1: a row", askRows(one(0, 2), mat(1, 1, 1), list(1), list(5)), updated},
		told{"3: above the diagonal", askCheck(rootOf(list(0, 0), 1, 1, 0, 1)), fault(api.ErrTriangle)},
		told{"3: a diagonal of 0", askCheck(one(0, 0)), fault(api.ErrTriangle)},
		told{"3: Predict", askPredict(one(0, 2), square(0), square(0)), fault(api.ErrTriangle)},
		told{"3: Distance", askDistance(one(0, 2), list(4)), isNumber(4)},
	)
	got := askPredict(two(), square(1, 1, 0, 1), square(0, 0, 0, 1))
	if got.err != api.OK || !sameList(got.s.X, list(3, 2)) || !sameNumber(got.s.L.At[1], 0) {
		t.Fatal("2:", got)
	}
	near(t, "2: L'", got.s.L.At, math.Sqrt2, 0, math.Sqrt(0.5), math.Sqrt(1.5))
	back := askState(got.s)
	if back.err != api.OK {
		t.Fatal("2: the square:", back)
	}
	near(t, "2: the square", back.known.P.At, 2, 1, 1, 2)
}

// roots are some that may be, and some that may not, each with why.
func roots() []told {
	x := list(1, 2)
	s := func(x []float64, l api.Mat) api.Root { return api.Root{X: x, L: l} }
	tall := noughts(12)
	for i := range tall.At {
		if i/12 >= i%12 {
			tall.At[i] = float64(1 + i)
		}
	}
	fine := []api.Root{
		{}, {X: []float64{}, L: mat(0, 0, []float64{}...)},
		one(0, 1), one(minus, least), one(-most, most), one(least, 0x1p-1022),
		rootOf(x, 1, 0, 7, 1), rootOf(x, 1, 0, minus, 1), rootOf(x, least, 0, -most, least), rootOf(x, most, 0, 0, least), rootOf(list(most, -most), 1, 0, 1, 0x1p-1074),
		rootOf(filled(3, 1), 2, 0, 0, -1, 2, 0, 0, -1, 2),
		{X: filled(12, 3), L: unit(12)}, {X: filled(12, most), L: diagonal(filled(12, least)...)}, {X: filled(12, minus), L: tall},
	}
	var out []told
	for _, f := range fine {
		out = append(out, told{want: answer{s: f}})
	}
	add := func(err api.Errno, l ...api.Root) {
		for _, f := range l {
			out = append(out, told{want: answer{s: f, err: err}})
		}
	}
	add(api.ErrRange, s(x, mat(-1, 2)), s(x, mat(2, -1)), s(x, mat(13, 13, filled(169, 1)...)), s(x, mat(0, 13)), s(nil, mat(13, 0)), s(nil, mat(math.MinInt, 0)), s(x, mat(2, math.MaxInt, 1, 0, 0, 1)), s(nil, mat(math.MaxInt, math.MaxInt)), s(filled(13, 0), diagonal(filled(13, 1)...)))
	add(api.ErrShape, s(x, mat(2, 2, 1, 0, 0)), s(x, mat(2, 2, 1, 0, 0, 1, 0)), s(x, mat(2, 2)), s(nil, mat(0, 0, 1)),
		s(x, mat(2, 1, 1, 1)), s(x, mat(1, 2, 1, 0)), s(list(1), mat(1, 2, 1, 0)), s(list(1), mat(2, 1, 1, 1)), s(nil, mat(0, 2)), s(x, mat(2, 0)), s(list(1), unit(2)), s(list(1, 2, 3), unit(2)), s(nil, unit(1)), s(list(1), mat(0, 0)), s(filled(11, 1), unit(12)), s(filled(13, 1), unit(12)))
	for _, u := range unfit() {
		add(api.ErrNumber, one(1, u), one(u, 1), rootOf(list(1, u), 1, 0, 0, 1), rootOf(list(u, 1), 1, 0, 0, 1), rootOf(x, u, 0, 0, 1), rootOf(x, 1, u, 0, 1), rootOf(x, 1, 0, u, 1), rootOf(x, 1, u, u, 1), rootOf(x, 1, 0, 0, u), s(filled(12, u), unit(12)))
	}
	add(api.ErrTriangle, one(1, 0), one(1, minus), one(1, -1), one(1, -least), one(1, -most), rootOf(x, 1, 1, 0, 1), rootOf(x, 1, -1, 0, 1), rootOf(x, 1, minus, 0, 1), rootOf(x, 1, least, 0, 1), rootOf(x, 1, 1, 1, 2),
		rootOf(x, 0, 0, 0, 1), rootOf(x, 1, 0, 0, 0), rootOf(x, minus, 0, 0, 1), rootOf(x, 1, 0, 0, minus), rootOf(x, -1, 0, 0, 1), rootOf(x, 1, 0, 0, -1), rootOf(x, 0, 1, 0, 0),
		rootOf(filled(3, 1), 1, 0, minus, 0, 1, 0, 0, 0, 1), rootOf(filled(3, 1), 1, 0, 0, 0, 1, 2, 0, 0, 1), rootOf(filled(3, 1), 1, 0, 0, 0, -1, 0, 0, 0, 1), rootOf(filled(3, 1), 1, 0, 0, 3, 0, 0, 0, 0, 1),
		s(filled(12, 1), diagonal(append(filled(11, 1), 0)...)), s(filled(12, 1), diagonal(append(list(-1), filled(11, 1)...)...)), s(filled(12, 1), mat(12, 12, with(unit(12).At, 11, minus)...)), s(filled(12, 1), mat(12, 12, with(unit(12).At, 131, 1)...)))
	return out
}

// P16.1 and the rule that each call looks at the root first: whatever else is wrong, what is wrong with the root is told, with zero values beside it.
func TestRoots(t *testing.T) {
	for _, c := range roots() {
		hold(t, told{"Check", askCheck(c.want.s), fault(c.want.err)})
		if c.want.err == api.OK {
			continue
		}
		n := len(c.want.s.X)
		low := min(n, 12)
		right := question{s: c.want.s, f: unit(low), g: unit(low), m: motion(part(api.KindWalk, max(1, n), 1, 0)), h: filled(n, 1), r: 1, z: 1, rows: mat(1, low, filled(low, 1)...), rs: list(1), zs: list(1), x: filled(n, 1)}
		wrong := question{s: c.want.s, f: mat(-1, 0), g: mat(1, 1, nan), ticks: -1, h: filled(n+1, nan), z: inf, rows: mat(13, 0), zs: list(nan), x: filled(n+1, nan)}
		for _, call := range calls() {
			if call.name != "Of" {
				hold(t, told{call.name, call.ask(right), fault(c.want.err)}, told{call.name + " with more wrong", call.ask(wrong), fault(c.want.err)})
			}
		}
	}
}

// P16.1 to P16.6: a root without rows, of one number, of MaxDim numbers.
func TestSizes(t *testing.T) {
	none := api.Root{}
	walk := motion(part(api.KindWalk, 12, 2, 0))
	s := api.Root{X: filled(12, 3), L: unit(12)}
	known := api.State{X: filled(12, 3), P: unit(12)}
	step := api.Step{Innov: 6, Var: 2, Score: 18, Gain: filled(0, 0)}
	last := append(filled(11, 0), 2)
	seen := api.Step{Innov: 10, Var: 16, Score: 6.25, Gain: append(filled(11, 0), 0.125)}
	behind := api.Root{X: with(s.X, 11, 4.25), L: diagonal(append(filled(11, 1), math.Sqrt(12)/4)...)}
	// Twice 1.5 beside 4: a diagonal of 5.
	twice, fourfold := diagonal(filled(12, 2)...), diagonal(filled(12, 4)...)
	threefold := api.Root{X: s.X, L: diagonal(filled(12, 1.5)...)}
	hold(t,
		told{"of none", askOf(api.State{}), answer{}},
		told{"none's state", askState(none), answer{}},
		told{"none predicted", askPredict(none, none.L, none.L), answer{}},
		told{"none predicted, noise", askPredict(none, none.L, mat(0, 12)), answer{}},
		told{"none moved", askMove(none, walk, 1), fault(api.ErrShape)},
		told{"none foreseen", askForesee(none, nil, 2), answer{y: 2}},
		told{"none updated", askUpdate(none, nil, 2, 6), answer{steps: []api.Step{step}}},
		told{"none, rows", askRows(none, mat(2, 0), list(2, 2), list(6, 6)), answer{steps: []api.Step{step, step}}},
		told{"none, a row refused", askRows(none, mat(2, 0), list(2, 0), list(6, 6)), faultAt(1, api.ErrVariance)},
		told{"none's distance", askDistance(none, nil), isNumber(0)},
		told{"none's trace", askTrace(none), isNumber(0)},
		told{"of one", askOf(state(list(7), 9)), isRoot(list(7), 3)},
		told{"one's state", askState(one(7, 3)), answer{known: state(list(7), 9)}},
		told{"one predicted", askPredict(one(7, 2), square(2), square(3)), isRoot(list(14), 5)},
		told{"one moved", askMove(one(7, 6), motion(part(api.KindFade, 1, 16, 1)), second), isRoot(list(3.5), 5)},
		told{"one's distance", askDistance(one(7, 0.5), list(5)), isNumber(16)},
		told{"one's trace", askTrace(one(7, 3)), isNumber(9)},
		told{"of twelve", askOf(known), answer{s: s}},
		told{"twelve's state", askState(s), answer{known: known}},
		told{"twelve predicted", askPredict(threefold, twice, fourfold), answer{s: api.Root{X: filled(12, 6), L: diagonal(filled(12, 5)...)}}},
		told{"twelve moved", askMove(threefold, walk, 2*second), answer{s: api.Root{X: s.X, L: diagonal(filled(12, 2.5)...)}}},
		told{"twelve foreseen", askForesee(s, filled(12, 1), 4), answer{x: 36, y: 16}},
		told{"twelve updated", askUpdate(s, last, 12, 16), answer{s: behind, steps: []api.Step{seen}}},
		told{"twelve, a row", askRows(s, mat(1, 12, last...), list(12), list(16)), answer{s: behind, steps: []api.Step{seen}}},
		told{"twelve's distance", askDistance(s, filled(12, 5)), isNumber(48)},
		told{"twelve's trace", askTrace(s), isNumber(12)},
	)
}

// P16.1: states that kalman refuses, whose triangle is refused, or goes over.
func TestOfStates(t *testing.T) {
	x := list(1, 2)
	up := math.Nextafter(0.5, 1)
	refused := []told{
		{"a range", askOf(api.State{X: x, P: mat(13, 2)}), fault(api.ErrRange)},
		{"a shape", askOf(api.State{X: x, P: mat(2, 2, 1)}), fault(api.ErrShape)},
		{"not square", askOf(api.State{X: x, P: mat(2, 1, 1, 1)}), fault(api.ErrShape)},
		{"X too short", askOf(state(list(1), 1, 0, 0, 1)), fault(api.ErrShape)},
		{"X too long", askOf(state(filled(3, 1), 1, 0, 0, 1)), fault(api.ErrShape)},
		{"unlike", askOf(state(x, 1, 0.5, up, 1)), fault(api.ErrCovSym)},
		{"unlike noughts", askOf(state(x, 1, 0, minus, 1)), fault(api.ErrCovSym)},
		{"singular", askOf(state(x, 1, 1, 1, 1)), fault(api.ErrCovPos)},
		{"nought", askOf(state(list(1), 0)), fault(api.ErrCovPos)},
		{"below 0", askOf(state(list(1), -4)), fault(api.ErrCovPos)},
		{"unlike and below 0", askOf(state(x, -1, 2, 0, -1)), fault(api.ErrCovSym)},
		{"over", askOf(stateThatGoesOver()), fault(api.ErrOver)},
	}
	for _, u := range unfit() {
		refused = append(refused, told{"a number", askOf(state(list(1), u)), fault(api.ErrNumber)}, told{"a mean", askOf(state(list(u), 1)), fault(api.ErrNumber)}, told{"a mean of one that isn't positive", askOf(state(list(u), -1)), fault(api.ErrNumber)})
	}
	hold(t, refused...)
	if over := reckoned(func() answer { return answer{s: wordsOfOf(stateThatGoesOver())} }); over.step != "L L" || !isPositiveMat(stateThatGoesOver().P) {
		t.Error(over)
	}
	for n, d := range []float64{least, 0x1p-1022, 0x1p-100, 1, 2, most} {
		hold(t, told{"one", askOf(state(list(float64(n)), d)), isRoot(list(float64(n)), math.Sqrt(d))})
	}
	hold(t,
		told{"two", askOf(state(x, 4, 2, 2, 5)), isRoot(x, 2, 0, 1, 2)},
		told{"noughts", askOf(state(list(minus, 0), 4, minus, minus, 9)), isRoot(list(minus, 0), 2, 0, minus, 3)},
		told{"just positive", askOf(state(x, 1, 1, 1, 1+0x1p-52)), isRoot(x, 1, 0, 1, 0x1p-26)},
	)
}

// P16.1: a triangle is refused though its state may be.
func TestTrianglesRefused(t *testing.T) {
	x := filled(3, 1)
	a := 0x1.5555555555555p-2
	found := 0
	for i := range 400 {
		// Nearly a c c', raised till it is positive and no further.
		c := list(1, 1+float64(i)/512, 3)
		p := mirroredOf(3, func(i, j int) float64 { return a * c[i] * c[j] })
		for !isPositiveMat(p) {
			p.At[4] = math.Nextafter(p.At[4], inf)
			p.At[8] = math.Nextafter(p.At[8], inf)
		}
		s := api.State{X: x, P: p}
		want := reckoned(func() answer { return answer{s: wordsOfOf(s)} })
		if want.err == api.ErrPositive {
			found++
		}
		hold(t, told{"just positive", askOf(s), want})
	}
	enough(t, "refused by its triangle", found, 10)
}

// P16.1: what a root's square loses by being rounded; over ahead of the look.
func TestSquares(t *testing.T) {
	x := list(1, 2)
	// The last square's ones are lost behind the great number; added up ahead of it they would not be.
	last := list(0x1p27, 1, 1, 1, 0x1p13)
	ordered, itsSquare := unit(5), unit(5)
	for j, l := range last {
		ordered.At[20+j], itsSquare.At[20+j], itsSquare.At[5*j+4] = l, l, l
	}
	itsSquare.At[24] = 0x1p54 + 0x1p26
	hold(t,
		told{"a square", askState(rootOf(x, 2, 0, 1, 2)), answer{known: state(x, 4, 2, 2, 5)}},
		told{"noughts", askState(rootOf(list(minus, 0), 2, 0, minus, 3)), answer{known: state(list(minus, 0), 4, 0, 0, 9)}},
		told{"in order", askState(api.Root{X: filled(5, 1), L: ordered}), answer{known: api.State{X: filled(5, 1), P: itsSquare}}},
		told{"just positive", askState(rootOf(x, 1, 0, 1, 0x1p-26)), answer{known: state(x, 1, 1, 1, 1+0x1p-52)}},
		told{"rounded to singular", askState(rootOf(x, 1, 0, 1, 0x1p-27)), fault(api.ErrCovPos)},
		told{"rounded to below 0", askState(rootOf(x, 0x1.0000001p0, 0, 1, 0x1p-40)), fault(api.ErrCovPos)},
		told{"falls to 0", askState(one(1, 0x1p-538)), fault(api.ErrCovPos)},
		told{"half of the least", askState(one(1, 0x1.6a09e667f3bccp-538)), fault(api.ErrCovPos)},
		told{"above half of the least", askState(one(1, 0x1.6a09e667f3bcdp-538)), answer{known: state(list(1), least)}},
		told{"the least", askState(one(1, 0x1p-537)), answer{known: state(list(1), least)}},
		told{"the greatest", askState(one(1, 0x1.fffffffffffffp511)), answer{known: state(list(1), 0x1.ffffffffffffep1023)}},
		told{"over", askState(one(1, 0x1p512)), fault(api.ErrOver)},
		told{"a sum over", askState(rootOf(x, 1, 0, 0x1.7p511, 0x1.7p511)), fault(api.ErrOver)},
		told{"over beside the diagonal", askState(rootOf(x, most, 0, 2, 1)), fault(api.ErrOver)},
		told{"over ahead of the look", askState(rootOf(x, least, 0, 0, most)), fault(api.ErrOver)},
	)
}

// P16.2: transitions and roots of noise that aren't good, not square, of other rows; f ahead of g, both ahead of what goes over.
func TestTransitions(t *testing.T) {
	cases := map[api.Errno][]api.Mat{
		api.ErrRange:  {mat(-1, 2), mat(2, 13, 1, 1), mat(13, 2), mat(math.MaxInt, 2), mat(2, math.MinInt)},
		api.ErrShape:  {mat(2, 2, 1, 0, 0), mat(2, 2, 1, 0, 0, 1, 1), mat(2, 2), mat(1, 2, 1, 1), mat(3, 2, 1, 0, 0, 1, 0, 0), unit(1), unit(3), mat(0, 0), mat(0, 2), unit(12)},
		api.ErrNumber: {},
	}
	for _, u := range unfit() {
		cases[api.ErrNumber] = append(cases[api.ErrNumber], square(u, 0, 0, 1), square(1, u, 0, 1), square(1, 0, u, 1), square(1, 0, 0, u), mat(1, 1, u), mat(1, 2, 1, u))
	}
	far := square(most, most, most, most)
	for err, l := range cases {
		for _, m := range l {
			hold(t, told{"f", askPredict(two(), m, unit(2)), fault(err)}, told{"g", askPredict(two(), unit(2), m), fault(err)}, told{"both", askPredict(two(), m, m), fault(err)})
			hold(t, told{"g ahead of what goes over", askPredict(two(), far, m), fault(err)}, told{"g ahead of a 0", askPredict(two(), noughts(2), m), fault(err)})
			for _, l := range cases {
				for _, g := range l {
					hold(t, told{"f ahead", askPredict(two(), m, g), fault(err)})
				}
			}
		}
	}
	for _, f := range []api.Mat{mat(2, 1, 1, 1), mat(2, 3, 1, 0, 0, 0, 1, 0), mat(2, 0), mat(2, 12, filled(24, 1)...)} {
		hold(t, told{"f not square", askPredict(two(), f, mat(-1, 0)), fault(api.ErrShape)})
		if got := askPredict(two(), unit(2), f); got.err != api.OK {
			t.Errorf("g of %v is refused: %d", f, got.err)
		}
	}
}

// P16.2: roots of noise with more columns and with fewer, and without any.
func TestColumnsOfNoise(t *testing.T) {
	s := rootOf(list(1, 2), 3, 0, 0, 3)
	x := list(1, 2)
	hold(t,
		told{"none", askPredict(s, unit(2), mat(2, 0)), isRoot(x, 3, 0, 0, 3)},
		told{"none, signs", askPredict(s, square(-1, 0, 0, -1), mat(2, 0)), isRoot(list(-1, -2), 3, 0, 0, 3)},
		told{"one", askPredict(s, unit(2), mat(2, 1, 0, 4)), isRoot(x, 3, 0, 0, 5)},
		told{"one of noughts", askPredict(s, unit(2), mat(2, 1, minus, 0)), isRoot(x, 3, 0, 0, 3)},
		told{"two", askPredict(s, unit(2), square(0, 4, 0, 0)), isRoot(x, 5, 0, 0, 3)},
		told{"three", askPredict(s, unit(2), mat(2, 3, 0, 0, -4, 0, 0, 0)), isRoot(x, 5, 0, 0, 3)},
		told{"twelve", askPredict(s, unit(2), mat(2, 12, append(filled(23, 0), 4)...)), isRoot(x, 3, 0, 0, 5)},
		told{"noise alone", askPredict(s, noughts(2), square(0, 2, 3, 0)), isRoot(list(0, 0), 2, 0, 0, 3)},
	)
	for cols := range 13 {
		g := mat(2, cols)
		for k := range 2 * cols {
			g.At = append(g.At, float64(k%5)-2)
		}
		q := question{s: rootOf(x, 2, 0, -1, 0.5), f: square(1, 0.1, 0, 1), g: g}
		hold(t, told{"some columns", askPredict(q.s, q.f, q.g), reckoned(func() answer { return answer{s: wordsOfPredict(q.s, q.f, q.g)} })})
	}
}

// P16.2: a diagonal that comes out 0, behind what goes over.
func TestDiagonalsOfNought(t *testing.T) {
	s := two()
	none := mat(2, 0)
	hold(t,
		told{"f of noughts", askPredict(s, noughts(2), none), fault(api.ErrTriangle)},
		told{"f of one rank", askPredict(s, square(0, 1, 0, 1), none), fault(api.ErrTriangle)},
		told{"a first 0", askPredict(s, square(0, 0, 0, 1), none), fault(api.ErrTriangle)},
		told{"a last 0", askPredict(s, square(1, 0, 0, 0), noughts(2)), fault(api.ErrTriangle)},
		told{"noise fills it", askPredict(s, square(1, 0, 0, 0), mat(2, 1, 0, -2)), isRoot(list(1, 0), 1, 0, 0, 2)},
		told{"falls to 0", askPredict(one(1, least), square(0.5), mat(1, 0)), fault(api.ErrTriangle)},
		told{"the least", askPredict(one(1, least), square(-1), mat(1, 0)), isRoot(list(-1), least)},
		told{"X' over ahead of it", askPredict(rootOf(list(most, 1), 1, 0, 0, 1), square(2, 0, 0, 0), none), fault(api.ErrOver)},
		told{"a product over ahead of it", askPredict(rootOf(list(0, 0), most, 0, 0, 1), square(2, 0, 0, 0), none), fault(api.ErrOver)},
		told{"a triangle over ahead of it", askPredict(rootOf(list(0, 0), 1, 0, 0, 1), noughts(2), square(0, 0, most, most)), fault(api.ErrOver)},
		told{"by a motion", askMove(one(1, least), motion(part(api.KindFade, 1, 0, 1)), second), fault(api.ErrTriangle)},
	)
}

// P16.2: motions and ticks that model refuses, then a motion with more or fewer numbers than X, then the rest.
func TestMotions(t *testing.T) {
	speed := motion(part(api.KindSpeed, 1, 3, 0))
	walk := motion(part(api.KindWalk, 1, 16, 0))
	moved := reckoned(func() answer {
		return answer{s: wordsOfPredict(two(), square(1, 2, 0, 1), square(math.Sqrt(6)*2/math.Sqrt(3), 0, math.Sqrt(6)*math.Sqrt(3)/2, math.Sqrt(6)/2))}
	})
	near(t, "a speed's square", askState(moved.s).known.P.At, 13, 8, 8, 7)
	hold(t,
		told{"a walk", askMove(one(1, 3), walk, second), isRoot(list(1), 5)},
		told{"a speed", askMove(two(), speed, 2*second), moved},
		told{"no time", askMove(two(), speed, 0), isRoot(list(1, 2), 1, 0, 0, 1)},
		told{"no parts", askMove(two(), motion(), 1), fault(api.ErrRange)},
		told{"a kind", askMove(two(), motion(part(5, 2, 1, 0)), 1), fault(api.ErrKind)},
		told{"a noise", askMove(two(), motion(part(api.KindSpeed, 1, -1, 0)), 1), fault(api.ErrNoise)},
		told{"a number", askMove(two(), motion(part(api.KindSpeed, 1, nan, 0)), 1), fault(api.ErrNumber)},
		told{"too long", askMove(two(), motion(part(api.KindPull, 5, 1, 0)), 1), fault(api.ErrLong)},
		told{"ticks below 0", askMove(two(), speed, -1), fault(api.ErrRange)},
		told{"ticks past the end", askMove(two(), speed, end+1), fault(api.ErrRange)},
		told{"ticks ahead of the shape", askMove(one(1, 1), speed, -1), fault(api.ErrRange)},
		told{"a motion ahead of the shape", askMove(one(1, 1), motion(part(5, 1, 0, 0)), -1), fault(api.ErrKind)},
		told{"more numbers", askMove(one(1, 1), speed, 1), fault(api.ErrShape)},
		told{"fewer numbers", askMove(rootOf(filled(3, 1), unit(3).At...), speed, 1), fault(api.ErrShape)},
		told{"none", askMove(api.Root{}, speed, 1), fault(api.ErrShape)},
		told{"a shape ahead of what goes over", askMove(one(most, most), speed, end), fault(api.ErrShape)},
		told{"over", askMove(rootOf(list(0, 0), most, 0, most, most), speed, second), fault(api.ErrOver)},
		told{"means over", askMove(rootOf(list(most, most), 1, 0, 0, 1), speed, second), fault(api.ErrOver)},
		told{"the longest time", askMove(one(1, 0x1p-100), walk, end), isRoot(list(1), math.Sqrt(16*(0x1p50/1000000)))},
	)
}

// ofRows asks the calls that take a row: what they say of it, all alike.
func ofRows(t *testing.T, what string, s api.Root, h []float64, r, z float64, err api.Errno) {
	t.Helper()
	hold(t, told{what + ", Update", askUpdate(s, h, r, z), fault(err)})
	if isFinite(z) {
		hold(t, told{what + ", Foresee", askForesee(s, h, r), fault(err)})
	}
	if len(h) == len(s.X) && isFiniteList(h) {
		hold(t, told{what + ", Rows", askRows(s, mat(1, len(h), h...), list(r), list(z)), fault(err)})
	}
}

// P16.3, P16.4: rows, variances and values that may not be.
func TestRowsThatMayNotBe(t *testing.T) {
	far := one(0, most)
	for n := range 14 {
		if n != 2 {
			ofRows(t, "a length", two(), filled(n, 1), 1, 1, api.ErrShape)
			ofRows(t, "a length, all wrong", two(), filled(n, nan), -1, inf, api.ErrShape)
		}
	}
	ofRows(t, "none", two(), nil, 1, 1, api.ErrShape)
	ofRows(t, "of no rows", api.Root{}, list(1), 1, 1, api.ErrShape)
	for _, u := range unfit() {
		for _, h := range [][]float64{list(u, 1), list(1, u), list(u, u)} {
			ofRows(t, "a row", two(), h, 1, 1, api.ErrNumber)
			ofRows(t, "a row and a variance", two(), h, -1, 1, api.ErrNumber)
		}
		ofRows(t, "a variance", two(), list(1, 1), u, 1, api.ErrNumber)
		ofRows(t, "a value", two(), list(1, 1), 1, u, api.ErrNumber)
		ofRows(t, "a value ahead of what goes over", far, list(2), 1, u, api.ErrNumber)
		ofRows(t, "a variance below 0 ahead of a value", two(), list(1, 1), -1, u, api.ErrVariance)
	}
	for _, r := range list(0, minus, -least, -1, -most) {
		ofRows(t, "a variance", two(), list(1, 1), r, 1, api.ErrVariance)
		ofRows(t, "a variance ahead of what goes over", far, list(2), r, 1, api.ErrVariance)
		ofRows(t, "a variance of no rows", api.Root{}, nil, r, 1, api.ErrVariance)
	}
}

// P16.3, P16.4: the least and the greatest variance are variances.
func TestVariances(t *testing.T) {
	s := one(3, 1)
	hold(t,
		told{"the least", askForesee(s, list(1), least), answer{x: 3, y: 1}},
		told{"the least of a row of noughts", askForesee(s, list(minus), least), answer{y: least}},
		told{"the greatest", askForesee(s, list(1), most), answer{x: 3, y: most}},
		told{"just not over", askForesee(one(3, 0x1.fffffffffffffp484), list(1), most), answer{x: 3, y: most}},
		told{"the greatest over", askForesee(one(3, 0x1p485), list(1), most), fault(api.ErrOver)},
		told{"the least, updated", askUpdate(s, list(0), least, 0), answer{s: s, steps: []api.Step{{Var: least, Gain: list(0)}}}},
		told{"the greatest, updated", askUpdate(s, list(1), most, 5), answer{s: s, steps: []api.Step{{Innov: 2, Var: most, Score: 4 / most, Gain: list(1 / most)}}}},
		told{"the least makes it sure", askUpdate(s, list(1), least, 5), answer{s: one(5, 0x1p-537), steps: []api.Step{{Innov: 2, Var: 1, Score: 4, Gain: list(1)}}}},
		told{"both great", askUpdate(one(0, 0x1p484), list(1), most, 0), answer{s: one(0, 0x1p484), steps: []api.Step{{Var: most, Gain: list(0x1p968 / most)}}}},
	)
}

// P16.3 to P16.6, P6: a step of each formula that goes over, none ahead of it.
func TestStepsThatGoOver(t *testing.T) {
	thrice := rootOf(filled(3, most), unit(3).At...)
	long := rootOf(filled(3, 0), 1, 0, 0, 0, 1, 0, 0, most, most)
	cases := []struct {
		call, step string
		q          question
	}{
		{"Of", "L L", question{known: stateThatGoesOver()}},
		{"State", "L L", question{s: one(0, 0x1p512)}},
		{"State", "L L", question{s: rootOf(list(0, 0), 1, 0, 0x1.7p511, 0x1.7p511)}},
		{"Predict", "X'", question{s: one(most, 1), f: square(2), g: square(1)}},
		{"Predict", "X'", question{s: thrice, f: mat(3, 3, 1, 1, -1, 0, 0, 0, 0, 0, 0), g: unit(3)}},
		{"Predict", "f L", question{s: one(0, most), f: square(2), g: square(1)}},
		{"Predict", "f L", question{s: rootOf(list(0, 0), most, 0, most, 1), f: square(1, 1, 0, 1), g: unit(2)}},
		{"Predict", "triangle", question{s: one(0, most), f: square(1), g: square(most)}},
		{"Predict", "triangle", question{s: rootOf(list(0, 0), 1, 0, most, most), f: unit(2), g: mat(2, 0)}},
		{"Foresee", "v", question{s: one(0, most), h: list(2), r: 1}},
		{"Foresee", "v", question{s: rootOf(list(0, 0), most, 0, most, 1), h: list(1, 1), r: 1}},
		{"Foresee", "m", question{s: one(most, 1), h: list(2), r: 1}},
		{"Foresee", "m", question{s: thrice, h: list(1, 1, -1), r: 1}},
		{"Foresee", "v v", question{s: one(0, 1), h: list(0x1p512), r: 1}},
		{"Foresee", "v v", question{s: rootOf(list(0, 0), 1, 0, 0, 1), h: list(0, 0x1p512), r: 1}},
		{"Foresee", "a", question{s: one(0, 0x1p511), h: list(1), r: most}},
		{"Foresee", "a", question{s: rootOf(list(0, 0), 0x1.7p511, 0, 0, 0x1.7p511), h: list(1, -1), r: 1}},
		{"Update", "y", question{s: one(most, 1), h: list(1), r: 1, z: -most}},
		{"Update", "v L", question{s: one(0, 0x1p800), h: list(0x1p-500), r: 1}},
		{"Update", "w + v L", question{s: rootOf(list(0, 0), 1, 0, 0x1p1000, 0x1p1000), h: list(0, 0x1.8p-977), r: 1}},
		{"Update", "t w", question{s: long, h: list(1, 0, 0x1p-1030), r: least}},
		{"Update", "t w", question{s: long, h: list(1, 0, 0x1p-1030), r: 0x1p-100}},
		{"Update", "c L - t w", question{s: rootOf(list(0, 0), 1, 0, -0x1.ep1023, 0x1.ep1023), h: list(0x1p-5, 0x1p-1030), r: 0x1p-100}},
		{"Update", "k", question{s: one(0, most), h: list(2 * least), r: least}},
		{"Update", "k y", question{s: one(0, 0x1p700), h: list(0x1p-540), r: 1, z: 0x1p490}},
		{"Update", "X + k y", question{s: one(0x1.8p1023, 0x1p700), h: list(0x1p-540), r: 1, z: 0x1.8p483 + 0x1p483}},
		{"Update", "X + k y", question{s: rootOf(list(0, -0x1.8p1023), 1, 0, 0, 0x1p700), h: list(0, -0x1p-540), r: 1, z: 0x1.8p483 + 0x1p483}},
		{"Update", "y y", question{s: one(0, 1), h: list(0), r: 0x1p600, z: 0x1p600}},
		{"Update", "y y", question{r: 1, z: -most}},
		{"Update", "score", question{s: one(0, 1), h: list(0), r: 0x1p-100, z: 0x1p500}},
		{"Update", "score", question{r: least, z: 1}},
		{"Distance", "d", question{s: one(most, 1), x: list(-most)}},
		{"Distance", "d", question{s: rootOf(list(0, -most), 1, 0, 0, most), x: list(0, most)}},
		{"Distance", "L b", question{s: rootOf(list(0, 0), 1, 0, 0x1p600, 1), x: list(0x1p600, 0)}},
		{"Distance", "t - L b", question{s: rootOf(list(0, 0), 0x1p600, 0, 0x1p600, most), x: list(most, -most)}},
		{"Distance", "b", question{s: one(0, least), x: list(2)}},
		{"Distance", "b", question{s: rootOf(list(0, 0), 1, 0, 0, 0.5), x: list(0, -most)}},
		{"Distance", "b b", question{s: one(0, 1), x: list(-0x1p512)}},
		{"Distance", "b b", question{s: rootOf(list(0, 0), 1, 0, 0, 1), x: list(0x1.7p511, 0x1.7p511)}},
		{"Trace", "trace", question{s: one(0, 0x1p512)}},
		{"Trace", "trace", question{s: rootOf(list(0, 0), 1, 0, -0x1p512, 1)}},
		{"Trace", "trace", question{s: rootOf(list(0, 0), 0x1.7p511, 0, 0, 0x1.7p511)}},
	}
	for _, c := range cases {
		for _, name := range alsoOver(c.call) {
			call := callOf(name)
			words := reckoned(func() answer { return call.words(c.q) })
			if name == c.call && (words.step != c.step || words.err != api.ErrOver) {
				t.Errorf("%s of %+v: %q goes over, not %q", name, c.q, words.step, c.step)
			}
			hold(t, told{name + ": " + c.step, call.ask(c.q), words})
		}
	}
}

// alsoOver are the calls that go over with one: who foresees is asked by all that update.
func alsoOver(call string) []string {
	if call == "Foresee" {
		return []string{"Foresee", "Update"}
	}
	return []string{call}
}

// P16.4: a diagonal of L' that isn't above 0, behind what goes over.
func TestDiagonalsThatFallToNought(t *testing.T) {
	s := one(0, least)
	// What is seen of it is the root of the variance: half of it is left, and that is rounded to even.
	h := list(0x1p1023)
	r := 0x1p-102
	half := askUpdate(s, h, r/3, 0)
	hold(t,
		told{"half", half, fault(api.ErrTriangle)},
		told{"more than half", askUpdate(s, h, r, 0), answer{s: s, steps: []api.Step{{Var: 2 * r, Gain: list(0)}}}},
		told{"far less", askUpdate(s, h, least, 0), fault(api.ErrTriangle)},
		told{"the first of two", askUpdate(rootOf(list(0, 0), least, 0, 0, 1), list(0x1p1023, 0), least, 0), fault(api.ErrTriangle)},
		told{"the last of two", askUpdate(rootOf(list(0, 0), 1, 0, 0, least), list(0, 0x1p1023), least, 0), fault(api.ErrTriangle)},
		told{"the score over ahead of it", askUpdate(s, h, least, 0x1p500), fault(api.ErrOver)},
		told{"a mean over ahead of it", askUpdate(rootOf(list(most, 0), 0x1p970, 0, 0, least), list(0x1p-900, 0x1p1023), 0x1p-110, 0x1p200), fault(api.ErrOver)},
		told{"a value ahead of it", askUpdate(s, h, least, nan), fault(api.ErrNumber)},
		told{"a row of it", askRows(s, mat(3, 1, 0, 0x1p1023, 0), list(1, least, 0), list(1, 0, 1)), faultAt(1, api.ErrTriangle)},
		told{"foreseen all the same", askForesee(s, h, least), answer{y: 0x1p-102}},
	)
	refused := 0
	for i := range 200 {
		l := least * float64(1+i%5)
		q := question{s: one(0, l), h: list(0x1p997 * float64(1+i)), r: 0x1p-144}
		want := reckoned(func() answer { return callOf("Update").words(q) })
		if want.err == api.ErrTriangle {
			refused++
		}
		hold(t, told{"about half", askUpdate(q.s, q.h, q.r, q.z), want})
	}
	if refused < 20 || refused > 180 {
		t.Error("refused", refused)
	}
}

// P16.5: Rows without rows, with one, with more; each number of rows, each of them refused.
func TestSomeRows(t *testing.T) {
	s := rootOf(list(1, 2), 2, 0, 1, 2)
	hold(t,
		told{"none", askRows(s, mat(0, 2), nil, nil), answer{s: s}},
		told{"none of none", askRows(api.Root{}, mat(0, 0), nil, nil), answer{}},
		told{"none of noughts", askRows(rootOf(list(minus, 0), 1, 0, minus, 1), mat(0, 2), nil, nil), isRoot(list(minus, 0), 1, 0, minus, 1)},
	)
	for n := 1; n <= 12; n++ {
		h, r, z := mat(n, 2), filled(n, 2), filled(n, 3)
		want := answer{s: s}
		for i := range n {
			h.At = append(h.At, 1, float64(i%3)-1)
			next := askUpdate(want.s, rowOf(h, i), 2, 3)
			want.s, want.steps = next.s, append(want.steps, next.steps...)
		}
		hold(t, told{"all", askRows(s, h, r, z), want})
		for i := range n {
			hold(t,
				told{"a variance", askRows(s, h, with(r, i, 0), z), faultAt(i, api.ErrVariance)},
				told{"a variance that isn't finite", askRows(s, h, with(r, i, inf), z), faultAt(i, api.ErrNumber)},
				told{"a value", askRows(s, h, r, with(z, i, nan)), faultAt(i, api.ErrNumber)},
				told{"over", askRows(s, h, r, with(z, i, most)), faultAt(i, api.ErrOver)},
				told{"the first of two", askRows(s, h, with(r, i, -1), with(z, n-1, nan)), faultAt(i, api.ErrVariance)},
			)
			if i < n-1 {
				hold(t, told{"the first of two, the other way", askRows(s, h, with(r, n-1, -1), with(z, i, nan)), faultAt(i, api.ErrNumber)})
			}
		}
	}
}

// P16.5: rows that don't go together: place 0, whatever row it is.
func TestRowsThatDontGoTogether(t *testing.T) {
	s, h := two(), mat(3, 2, 1, 0, 0, 1, 1, 1)
	right := filled(3, 1)
	for n := range 14 {
		if n != 3 {
			hold(t,
				told{"r", askRows(s, h, filled(n, 1), right), fault(api.ErrShape)},
				told{"z", askRows(s, h, right, filled(n, 1)), fault(api.ErrShape)},
				told{"both", askRows(s, h, filled(n, -1), filled(n, nan)), fault(api.ErrShape)},
				told{"without rows", askRows(s, mat(0, 2), filled(n+1, 1), nil), fault(api.ErrShape)},
				told{"without rows, values", askRows(s, mat(0, 2), nil, filled(n+1, 1)), fault(api.ErrShape)},
			)
		}
		if n != 2 && n < 13 {
			hold(t, told{"columns", askRows(s, mat(3, n, filled(3*n, 1)...), right, right), fault(api.ErrShape)}, told{"no rows of columns", askRows(s, mat(0, n), nil, nil), fault(api.ErrShape)})
		}
	}
	for _, m := range []api.Mat{mat(-1, 2), mat(13, 2, filled(26, 1)...), mat(3, 13), mat(3, math.MinInt), mat(math.MaxInt, 2)} {
		hold(t, told{"a range", askRows(s, m, right, right), fault(api.ErrRange)}, told{"a range, all wrong", askRows(s, m, list(nan), nil), fault(api.ErrRange)})
	}
	for _, m := range []api.Mat{mat(3, 2, 1, 0, 0, 1, 1), mat(3, 2, filled(7, 1)...), mat(3, 2)} {
		hold(t, told{"a shape", askRows(s, m, right, right), fault(api.ErrShape)})
	}
	for i := range 6 {
		for _, u := range unfit() {
			bad := mat(3, 2, with(h.At, i, u)...)
			hold(t,
				told{"a number of any row", askRows(s, bad, right, right), fault(api.ErrNumber)},
				told{"a number ahead of the variance", askRows(s, bad, list(-1, 1, 1), right), fault(api.ErrNumber)},
				told{"a number ahead of the shapes", askRows(s, bad, nil, nil), fault(api.ErrNumber)},
				told{"a number ahead of the columns", askRows(one(1, 1), bad, right, right), fault(api.ErrNumber)},
			)
		}
	}
}

// P16.6: a list too short, too long, not finite, far away, where the means are.
func TestDistances(t *testing.T) {
	s := rootOf(list(1, 2), 2, 0, 1, 4)
	for n := range 15 {
		if n != 2 {
			hold(t, told{"a length", askDistance(s, filled(n, 1)), fault(api.ErrShape)}, told{"a length, not finite", askDistance(s, filled(n, nan)), fault(api.ErrShape)})
		}
	}
	for _, u := range unfit() {
		hold(t,
			told{"the first", askDistance(s, list(u, 1)), fault(api.ErrNumber)},
			told{"the last", askDistance(s, list(1, u)), fault(api.ErrNumber)},
			told{"ahead of what goes over", askDistance(rootOf(list(most, 0), 1, 0, 0, 1), list(-most, u)), fault(api.ErrNumber)},
		)
	}
	hold(t,
		told{"none", askDistance(s, nil), fault(api.ErrShape)},
		told{"of none, one", askDistance(api.Root{}, list(1)), fault(api.ErrShape)},
		told{"where it is", askDistance(s, list(1, 2)), isNumber(0)},
		told{"noughts", askDistance(one(0, 1), list(minus)), isNumber(0)},
		told{"one away", askDistance(s, list(5, 2)), isNumber(4.25)},
		told{"the other", askDistance(s, list(1, -6)), isNumber(4)},
		told{"in order", askDistance(rootOf(filled(3, 0), unit(3).At...), list(0x1p27, 1, 1)), isNumber(0x1p54)},
		told{"in order, the other way", askDistance(rootOf(filled(3, 0), unit(3).At...), list(2, 2, 0x1p27)), isNumber(0x1p54 + 8)},
		told{"far away", askDistance(one(-0x1p510, 1), list(0x1p510)), isNumber(0x1p1022)},
		told{"too far away", askDistance(one(-0x1p511, 1), list(0x1p511)), fault(api.ErrOver)},
		told{"far away, but unsure", askDistance(one(-0x1p1022, 0x1p1023), list(0x1p1022)), isNumber(1)},
		told{"near, but sure", askDistance(one(0, 0x1p-600), list(0x1p-80)), fault(api.ErrOver)},
		told{"too near", askDistance(one(0, 1), list(0x1p-538)), isNumber(0)},
	)
}

// P16.6: in order, row by row; over.
func TestTraces(t *testing.T) {
	hold(t,
		told{"both rows", askTrace(rootOf(list(1, 2), 2, 0, -1, 3)), isNumber(14)},
		told{"in order", askTrace(rootOf(filled(2, 0), 0x1p27, 0, 1, 1)), isNumber(0x1p54)},
		told{"row by row", askTrace(rootOf(filled(3, 0), 1, 0, 0, 2, 1, 0, 1, 1, 0x1p27)), isNumber(0x1p54 + 8)},
		told{"a row's own sum isn't taken", askTrace(rootOf(filled(3, 0), 0x1p27, 0, 0, 1, 1, 0, 1, 1, 1)), isNumber(0x1p54)},
		told{"the greatest", askTrace(one(0, 0x1.fffffffffffffp511)), isNumber(0x1.ffffffffffffep1023)},
		told{"over", askTrace(one(0, 0x1p512)), fault(api.ErrOver)},
		told{"over by its sum", askTrace(api.Root{X: filled(4, 0), L: diagonal(filled(4, 0x1p511)...)}), fault(api.ErrOver)},
		told{"not over", askTrace(api.Root{X: filled(3, 0), L: diagonal(filled(3, 0x1p511)...)}), isNumber(0x1.8p1023)},
		told{"the least", askTrace(api.Root{X: filled(12, 0), L: diagonal(filled(12, 0x1p-537)...)}), isNumber(12 * least)},
		told{"fallen to 0", askTrace(api.Root{X: filled(12, 0), L: diagonal(filled(12, least)...)}), isNumber(0)},
	)
}

// P16.4: signs of noughts are what the steps give.
func TestSignsOfNoughts(t *testing.T) {
	s := rootOf(list(minus, 0), 1, 0, minus, 1)
	step := []api.Step{{Var: 1, Gain: list(0, 0)}}
	for _, h := range [][]float64{list(0, 0), list(minus, minus), list(0, minus)} {
		hold(t, told{"a row of noughts", askUpdate(s, h, 1, 0), answer{s: rootOf(list(0, 0), 1, 0, minus, 1), steps: step}})
	}
	hold(t,
		told{"an innovation below 0", askUpdate(one(minus, 1), list(0), 1, -1), answer{s: one(minus, 1), steps: []api.Step{{Innov: -1, Var: 1, Score: 1, Gain: list(0)}}}},
		told{"an innovation of -0", askUpdate(one(minus, 1), list(0), 1, minus), answer{s: one(minus, 1), steps: []api.Step{{Innov: minus, Var: 1, Gain: list(0)}}}},
		told{"foreseen", askForesee(one(minus, 1), list(minus), 1), answer{x: 0, y: 1}},
		told{"predicted", askPredict(s, unit(2), square(minus, minus, minus, minus)), isRoot(list(0, 0), 1, 0, 0, 1)},
		told{"a row of one", askUpdate(rootOf(list(0, 0), 1, 0, minus, 1), list(0, 1), 1, 0), reckoned(func() answer {
			s, step := wordsOfUpdate(rootOf(list(0, 0), 1, 0, minus, 1), list(0, 1), 1, 0)
			return answer{s: s, steps: []api.Step{step}}
		})},
	)
}
