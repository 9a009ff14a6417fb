package kalman_test

import (
	"math"
	"testing"

	"binnacle/api"
	"binnacle/kalman"
)

// told is a case: what was answered, and what should have been.
type told struct {
	what      string
	got, want answer
}

func hold(t *testing.T, cases ...told) {
	t.Helper()
	for _, c := range cases {
		if !c.got.is(c.want) {
			t.Errorf("%s: %+v, not %+v", c.what, c.got, c.want)
		}
	}
}

func isState(x []float64, p ...float64) answer { return answer{s: state(x, p...)} }

func isNumber(x float64) answer { return answer{x: x} }

func askCheck(s api.State) answer { return fault(kalman.Check(s)) }

func askPredict(s api.State, f, q api.Mat) answer { return saysState(kalman.Predict(s, f, q)) }

func askForesee(s api.State, h []float64, r float64) answer {
	return saysTwo(kalman.Foresee(s, h, r))
}

func askUpdate(s api.State, h []float64, r, z float64) answer {
	return saysStep(kalman.Update(s, h, r, z))
}

func askShort(s api.State, h []float64, r, z float64) answer {
	return saysStep(kalman.Short(s, h, r, z))
}

func askRows(s api.State, h api.Mat, r, z []float64) answer {
	return saysRows(kalman.Rows(s, h, r, z))
}

func askTrace(s api.State) answer { return saysNumber(kalman.Trace(s)) }

// one is a state of one number.
func one(x, p float64) api.State { return state(list(x), p) }

// two is a state of two.
func two() api.State { return state(list(1, 2), 1, 0, 0, 1) }

// The chapter's examples, as they stand.
func TestExamples(t *testing.T) {
	k := 4.0 / 5
	b := float64((1 - k) * 4)
	p := float64(b*(1-k)) + float64(float64(k*1)*k)
	step := api.Step{Innov: 5, Var: 5, Score: 5, Gain: list(k)}
	if k != 0.8 || 1-k != 0.19999999999999996 || b != 0.7999999999999998 {
		t.Fatal(k, b)
	}
	hold(t,
		told{"1: foreseen", askForesee(one(0, 4), list(1), 1), answer{x: 0, y: 5}},
		told{"1: updated", askUpdate(one(0, 4), list(1), 1, 5), answer{s: one(4, p), steps: []api.Step{step}}},
		told{"1: short", askShort(one(0, 4), list(1), 1, 5), answer{s: one(4, 4-float64(k*4)), steps: []api.Step{step}}},
		told{"1: a row", askRows(one(0, 4), mat(1, 1, 1), list(1), list(5)), answer{s: one(4, p), steps: []api.Step{step}}},
		told{"2", askPredict(two(), square(1, 1, 0, 1), square(0, 0, 0, 1)), isState(list(3, 2), 2, 1, 1, 2)},
		told{"3: Check", askCheck(state(list(0, 0), 1, 1, 1, 1)), fault(api.ErrCovPos)},
		told{"3: Check", askCheck(state(list(0, 0), 1, 2, 0, 1)), fault(api.ErrCovSym)},
		told{"3: variance 0", askUpdate(one(0, 4), list(1), 0, 5), fault(api.ErrVariance)},
		told{"3: Predict", askPredict(one(0, 4), square(0), square(0)), fault(api.ErrCovPos)},
	)
	if math.Abs(p-0.8) > 0x1p-52 {
		t.Error(p)
	}
}

// states are some that may be, and some that may not, each with why.
func states() []told {
	up := math.Nextafter(0.5, 1)
	x := list(1, 2)
	s := func(x []float64, p api.Mat) api.State { return api.State{X: x, P: p} }
	fine := []api.State{
		{}, {X: []float64{}, P: mat(0, 0, []float64{}...)},
		one(0, 1), one(minus, least), one(-most, most), one(least, 0x1p-1022),
		state(x, 2, 1, 1, 2), state(x, 1, 1, 1, 1+0x1p-52), state(x, 1, -0.5, -0.5, 1), state(x, 1, 0.5, 0.5, up/2), state(x, 1, minus, minus, 1),
		state(x, most, 0, 0, least), state(list(most, -most), most, 1, 1, 0x1p-1023), state(x, 0x1p-500, 0x1p-501, 0x1p-501, 0x1p-500),
		state(filled(3, 1), 2, -1, 0, -1, 2, -1, 0, -1, 2),
		{X: filled(12, 3), P: unit(12)}, {X: filled(12, most), P: diagonal(filled(12, least)...)},
	}
	var out []told
	for _, f := range fine {
		out = append(out, told{want: answer{s: f}})
	}
	add := func(err api.Errno, l ...api.State) {
		for _, f := range l {
			out = append(out, told{want: answer{s: f, err: err}})
		}
	}
	add(api.ErrRange, s(x, mat(-1, 2)), s(x, mat(2, -1)), s(x, mat(13, 13, filled(169, 1)...)), s(x, mat(0, 13)), s(nil, mat(13, 0)), s(nil, mat(math.MinInt, 0)), s(x, mat(2, math.MaxInt, 1, 0, 0, 1)), s(nil, mat(math.MaxInt, math.MaxInt)), s(filled(13, 0), diagonal(filled(13, 1)...)))
	add(api.ErrShape, s(x, mat(2, 2, 1, 0, 0)), s(x, mat(2, 2, 1, 0, 0, 1, 0)), s(x, mat(2, 2)), s(nil, mat(0, 0, 1)),
		s(x, mat(2, 1, 1, 1)), s(x, mat(1, 2, 1, 1)), s(nil, mat(0, 2)), s(x, mat(2, 0)), s(list(1), unit(2)), s(list(1, 2, 3), unit(2)), s(nil, unit(1)), s(list(1), mat(0, 0)), s(filled(11, 1), unit(12)), s(filled(13, 1), unit(12)))
	for _, u := range unfit() {
		add(api.ErrNumber, one(1, u), one(u, 1), state(list(1, u), 1, 0, 0, 1), state(list(u, 1), 1, 0, 0, 1), state(x, 1, u, 0, 1), state(x, 1, 0, u, 1), state(x, 1, u, u, 1), state(x, 1, 0, 0, u))
	}
	add(api.ErrCovSym, state(x, 1, 2, 0, 1), state(x, 1, 0, minus, 1), state(x, 1, minus, 0, 1), state(x, 1, 0.5, up, 1), state(x, 1, up, 0.5, 1), state(x, 1, 0.5, -0.5, 1), state(x, 1, 0, least, 1),
		state(filled(3, 1), 1, 0, 0, 0, 1, 0.25, 0, 0.5, 1), state(filled(3, 1), 1, 0, 0.25, 0, 1, 0, 0.5, 0, 1))
	add(api.ErrCovPos, one(1, 0), one(1, minus), one(1, -1), one(1, -least), state(x, 1, 1, 1, 1), state(x, 1, 1, 1, 1-0x1p-53), state(x, 1, 2, 2, 1), state(x, 0, 0, 0, 1), state(x, 1, 0, 0, 0), state(x, 1, 0, 0, minus), state(x, -1, 0, 0, 1), state(x, 1, 0, 0, -1), state(x, 0, 1, 1, 0), state(x, 0, 0, 0, 0),
		state(filled(3, 1), 2, -1, -1, -1, 2, -1, -1, -1, 2), state(filled(3, 1), 1, 1, 1, 1, 2, 2, 1, 2, 2), state(filled(3, 1), 1, 0, 0, 0, 1, 0, 0, 0, -least),
		s(filled(12, 1), diagonal(append(filled(11, 1), 0)...)), s(filled(12, 1), diagonal(append(list(-1), filled(11, 1)...)...)), state(x, most, most, most, most), state(x, least, least, least, least))
	return out
}

// P15.1 and the rule that each call looks at the state first: whatever else is wrong, what is wrong with the state is told, with zero values beside it.
func TestStates(t *testing.T) {
	for _, c := range states() {
		hold(t, told{"Check", askCheck(c.want.s), fault(c.want.err)})
		if c.want.err == api.OK {
			continue
		}
		n := len(c.want.s.X)
		right := question{s: c.want.s, f: unit(min(n, 12)), q: unit(min(n, 12)), m: motion(part(api.KindWalk, max(1, n), 1, 0)), h: filled(n, 1), r: 1, z: 1, rows: mat(1, min(n, 12), filled(min(n, 12), 1)...), rs: list(1), zs: list(1)}
		wrong := question{s: c.want.s, f: mat(-1, 0), q: mat(1, 1, nan), ticks: -1, h: filled(n+1, nan), z: inf, rows: mat(13, 0), zs: list(nan)}
		for _, call := range calls() {
			hold(t, told{call.name, call.ask(right), fault(c.want.err)}, told{call.name + " with more wrong", call.ask(wrong), fault(c.want.err)})
		}
	}
}

// P15.2 to P15.8: a state without rows, of one number, of MaxDim numbers.
func TestSizes(t *testing.T) {
	none := api.State{}
	walk := motion(part(api.KindWalk, 12, 2, 0))
	s := api.State{X: filled(12, 3), P: unit(12)}
	step := api.Step{Innov: 6, Var: 2, Score: 18, Gain: filled(0, 0)}
	last := append(filled(11, 0), 2)
	seen := api.Step{Innov: 10, Var: 8, Score: 12.5, Gain: append(filled(11, 0), 0.25)}
	behind := api.State{X: with(s.X, 11, 5.5), P: diagonal(append(filled(11, 1), 0.5)...)}
	hold(t,
		told{"none predicted", askPredict(none, none.P, none.P), answer{}},
		told{"none moved", saysState(kalman.Move(none, walk, 1)), fault(api.ErrShape)},
		told{"none foreseen", askForesee(none, nil, 2), answer{y: 2}},
		told{"none updated", askUpdate(none, nil, 2, 6), answer{steps: []api.Step{step}}},
		told{"none, short", askShort(none, nil, 2, 6), answer{steps: []api.Step{step}}},
		told{"none, rows", askRows(none, mat(2, 0), list(2, 2), list(6, 6)), answer{steps: []api.Step{step, step}}},
		told{"none, a row refused", askRows(none, mat(2, 0), list(2, 0), list(6, 6)), faultAt(1, api.ErrVariance)},
		told{"none's trace", askTrace(none), isNumber(0)},
		told{"one's trace", askTrace(one(7, 3)), isNumber(3)},
		told{"one predicted", askPredict(one(7, 3), square(2), square(5)), answer{s: one(14, 17)}},
		told{"one moved", saysState(kalman.Move(one(7, 3), motion(part(api.KindFade, 1, 2, 1)), second)), answer{s: one(3.5, 2.75)}},
		told{"twelve predicted", askPredict(s, diagonal(filled(12, 2)...), unit(12)), answer{s: api.State{X: filled(12, 6), P: diagonal(filled(12, 5)...)}}},
		told{"twelve moved", saysState(kalman.Move(s, walk, 3*second)), answer{s: api.State{X: s.X, P: diagonal(filled(12, 7)...)}}},
		told{"twelve foreseen", askForesee(s, filled(12, 1), 4), answer{x: 36, y: 16}},
		told{"twelve updated", askUpdate(s, last, 4, 16), answer{s: behind, steps: []api.Step{seen}}},
		told{"twelve, short", askShort(s, last, 4, 16), answer{s: behind, steps: []api.Step{seen}}},
		told{"twelve's trace", askTrace(s), isNumber(12)},
		told{"twelve's trace", askTrace(behind), isNumber(11.5)},
	)
}

// P15.2: transitions and noises that aren't good, not square, of other rows, unlike across the diagonal; f ahead of q.
func TestTransitions(t *testing.T) {
	up := math.Nextafter(0.5, 1)
	cases := map[api.Errno][]api.Mat{
		api.ErrRange:  {mat(-1, 2), mat(2, 13, 1, 1), mat(13, 2), mat(math.MaxInt, 2), mat(2, math.MinInt)},
		api.ErrShape:  {mat(2, 2, 1, 0, 0), mat(2, 2, 1, 0, 0, 1, 1), mat(2, 2), mat(2, 1, 1, 1), mat(1, 2, 1, 1), mat(2, 3, 1, 0, 0, 0, 1, 0), mat(3, 2, 1, 0, 0, 1, 0, 0), unit(1), unit(3), mat(0, 0)},
		api.ErrNumber: {},
	}
	for _, u := range unfit() {
		cases[api.ErrNumber] = append(cases[api.ErrNumber], square(u, 0, 0, 1), square(1, u, 0, 1), square(1, 0, u, 1), square(1, 0, 0, u), mat(1, 1, u), mat(1, 2, 1, u))
	}
	for err, l := range cases {
		for _, m := range l {
			hold(t, told{"f", askPredict(two(), m, unit(2)), fault(err)}, told{"q", askPredict(two(), unit(2), m), fault(err)}, told{"both", askPredict(two(), m, m), fault(err)})
			for other, l := range cases {
				for _, q := range l {
					hold(t, told{"f ahead", askPredict(two(), m, q), fault(err)}, told{"q ahead of what goes over", askPredict(two(), square(most, most, most, most), q), fault(other)})
				}
			}
			hold(t, told{"f ahead of what is unlike", askPredict(two(), m, square(1, 2, 3, 4)), fault(err)})
		}
	}
	for _, q := range []api.Mat{square(1, 2, 0, 1), square(1, 0, minus, 1), square(1, minus, 0, 1), square(1, 0.5, up, 1), square(1, up, 0.5, 1), square(0, 0, least, 0)} {
		hold(t, told{"unlike", askPredict(two(), unit(2), q), fault(api.ErrCovSym)}, told{"unlike ahead of what goes over", askPredict(two(), square(most, most, most, most), q), fault(api.ErrCovSym)})
		if got := askPredict(two(), q, unit(2)); got.err != api.OK {
			t.Errorf("f of %v is refused: %d", q, got.err)
		}
	}
}

// P15.2: the exact look, behind the sum with q: neither f nor q need be more than they are.
func TestLookBehindPredict(t *testing.T) {
	x := list(1, 2)
	s := state(x, 2, 0, 0, 2)
	hold(t,
		told{"q below 0", askPredict(one(1, 4), square(1), square(-3)), answer{s: one(1, 1)}},
		told{"q takes all", askPredict(one(1, 4), square(1), square(-4)), fault(api.ErrCovPos)},
		told{"q takes more", askPredict(one(1, 4), square(1), square(-5)), fault(api.ErrCovPos)},
		told{"f takes all, q gives", askPredict(one(1, 4), square(0), square(3)), answer{s: one(0, 3)}},
		told{"q across", askPredict(s, unit(2), square(0, 1, 1, 0)), isState(x, 2, 1, 1, 2)},
		told{"q across, just not", askPredict(s, unit(2), square(0, 2, 2, 0)), fault(api.ErrCovPos)},
		told{"q across, just", askPredict(s, unit(2), square(0, 2, 2, 0x1p-51)), isState(x, 2, 2, 2, 2+0x1p-51)},
		told{"f of one rank", askPredict(s, square(1, 1, 1, 1), noughts(2)), fault(api.ErrCovPos)},
		told{"f of one rank, q", askPredict(s, square(1, 1, 1, 1), unit(2)), isState(list(3, 3), 5, 4, 4, 5)},
		told{"below what numbers hold", askPredict(one(1, least), square(0.25), square(0)), fault(api.ErrCovPos)},
		told{"over ahead of the look", askPredict(state(list(most, 1), 1, 0, 0, 1), square(2, 0, 0, 0), noughts(2)), fault(api.ErrOver)},
	)
}

// P15.3: motions and ticks that model refuses, then a motion with more or fewer numbers than X, then the rest.
func TestMotions(t *testing.T) {
	speed := motion(part(api.KindSpeed, 1, 3, 0))
	ask := func(s api.State, m api.Motion, ticks int64) answer { return saysState(kalman.Move(s, m, ticks)) }
	hold(t,
		told{"a speed", ask(two(), speed, 2*second), isState(list(5, 2), 13, 8, 8, 7)},
		told{"no time", ask(two(), speed, 0), isState(list(1, 2), 1, 0, 0, 1)},
		told{"no parts", ask(two(), motion(), 1), fault(api.ErrRange)},
		told{"a kind", ask(two(), motion(part(5, 2, 1, 0)), 1), fault(api.ErrKind)},
		told{"a noise", ask(two(), motion(part(api.KindSpeed, 1, -1, 0)), 1), fault(api.ErrNoise)},
		told{"a number", ask(two(), motion(part(api.KindSpeed, 1, nan, 0)), 1), fault(api.ErrNumber)},
		told{"too long", ask(two(), motion(part(api.KindPull, 5, 1, 0)), 1), fault(api.ErrLong)},
		told{"ticks below 0", ask(two(), speed, -1), fault(api.ErrRange)},
		told{"ticks past the end", ask(two(), speed, end+1), fault(api.ErrRange)},
		told{"ticks ahead of the shape", ask(one(1, 1), speed, -1), fault(api.ErrRange)},
		told{"a motion ahead of the shape", ask(one(1, 1), motion(part(5, 1, 0, 0)), -1), fault(api.ErrKind)},
		told{"more numbers", ask(one(1, 1), speed, 1), fault(api.ErrShape)},
		told{"fewer numbers", ask(state(filled(3, 1), unit(3).At...), speed, 1), fault(api.ErrShape)},
		told{"none", ask(api.State{}, speed, 1), fault(api.ErrShape)},
		told{"a shape ahead of what goes over", ask(one(most, most), speed, end), fault(api.ErrShape)},
		told{"over", ask(state(list(0, 0), most, 0, 0, most), speed, second), fault(api.ErrOver)},
		told{"means over", ask(state(list(most, most), 1, 0, 0, 1), speed, second), fault(api.ErrOver)},
		told{"faded to nothing", ask(one(1, least), motion(part(api.KindFade, 1, 0, 0x1p100)), end), fault(api.ErrCovPos)},
		told{"the longest time", ask(one(1, 1), motion(part(api.KindWalk, 1, 1, 0)), end), answer{s: one(1, 1+0x1p50/1000000)}},
	)
}

// ofRows asks the calls that take a row: what they say of it, all alike.
func ofRows(t *testing.T, what string, s api.State, h []float64, r, z float64, err api.Errno) {
	t.Helper()
	hold(t, told{what + ", Update", askUpdate(s, h, r, z), fault(err)}, told{what + ", Short", askShort(s, h, r, z), fault(err)})
	if isFinite(z) {
		hold(t, told{what + ", Foresee", askForesee(s, h, r), fault(err)})
	}
	if len(h) == len(s.X) && isFiniteList(h) {
		hold(t, told{what + ", Rows", askRows(s, mat(1, len(h), h...), list(r), list(z)), fault(err)})
	}
}

// P15.4 to P15.6: rows, variances and values that may not be.
func TestRowsThatMayNotBe(t *testing.T) {
	for n := range 14 {
		if n != 2 {
			ofRows(t, "a length", two(), filled(n, 1), 1, 1, api.ErrShape)
			ofRows(t, "a length, all wrong", two(), filled(n, nan), -1, inf, api.ErrShape)
		}
	}
	ofRows(t, "none", two(), nil, 1, 1, api.ErrShape)
	ofRows(t, "of no rows", api.State{}, list(1), 1, 1, api.ErrShape)
	for _, u := range unfit() {
		for _, h := range [][]float64{list(u, 1), list(1, u), list(u, u)} {
			ofRows(t, "a row", two(), h, 1, 1, api.ErrNumber)
			ofRows(t, "a row and a variance", two(), h, -1, 1, api.ErrNumber)
		}
		ofRows(t, "a variance", two(), list(1, 1), u, 1, api.ErrNumber)
		ofRows(t, "a value", two(), list(1, 1), 1, u, api.ErrNumber)
		ofRows(t, "a value ahead of what goes over", one(0, most), list(2), 1, u, api.ErrNumber)
		s, h, _ := lowest(0, 0)
		ofRows(t, "a value ahead of an innovation", s, h, least, u, api.ErrNumber)
		ofRows(t, "a variance below 0 ahead of a value", two(), list(1, 1), -1, u, api.ErrVariance)
	}
	for _, r := range list(0, minus, -least, -1, -most) {
		ofRows(t, "a variance", two(), list(1, 1), r, 1, api.ErrVariance)
		ofRows(t, "a variance ahead of what goes over", one(0, most), list(2), r, 1, api.ErrVariance)
		ofRows(t, "a variance of no rows", api.State{}, nil, r, 1, api.ErrVariance)
	}
}

// P15.4, P15.5: the least and the greatest variance are variances.
func TestVariances(t *testing.T) {
	s := one(3, 1)
	hold(t,
		told{"the least", askForesee(s, list(1), least), answer{x: 3, y: 1}},
		told{"the least of a row of noughts", askForesee(s, list(minus), least), answer{y: least}},
		told{"the greatest", askForesee(s, list(1), most), answer{x: 3, y: most}},
		told{"the greatest over", askForesee(one(3, 0x1p971), list(1), most), fault(api.ErrOver)},
		told{"the least, updated", askUpdate(s, list(0), least, 0), answer{s: s, steps: []api.Step{{Innov: 0, Var: least, Score: 0, Gain: list(0)}}}},
		told{"the greatest, updated", askUpdate(s, list(1), most, 5), answer{s: s, steps: []api.Step{{Innov: 2, Var: most, Score: 4 / most, Gain: list(1 / most)}}}},
		told{"the least makes it sure", askUpdate(s, list(1), least, 5), answer{s: one(5, least), steps: []api.Step{{Innov: 2, Var: 1, Score: 4, Gain: list(1)}}}},
	)
}

// scale is the state and the row of lowest by powers of 2, and the variance with which S is the least that it may be.
func scale(p, h int) (s api.State, row []float64, r float64) {
	s, row, less := lowest(0, 0)
	for i := range s.P.At {
		s.P.At[i] = math.Ldexp(s.P.At[i], p)
	}
	for i := range row {
		row[i] = math.Ldexp(row[i], h)
	}
	return s, row, math.Ldexp(math.Nextafter(less, 1), p+2*h)
}

// P15.4: S below 0, of 0, just above; what isn't finite isn't held against 0.
func TestInnovations(t *testing.T) {
	s, h, less := lowest(0, 0)
	ofRows(t, "S below 0", s, h, least, 1, api.ErrInnovation)
	ofRows(t, "S below 0", s, h, less/2, 1, api.ErrInnovation)
	ofRows(t, "S just below 0", s, h, math.Nextafter(less, 0), 1, api.ErrInnovation)
	ofRows(t, "S of 0", s, h, less, 1, api.ErrInnovation)
	ofRows(t, "S below 0 ahead of what goes over behind it", s, h, least, most, api.ErrInnovation)
	far, h, less := lowest(0, 0)
	far.X = list(most, -most)
	ofRows(t, "what goes over ahead of S", far, list(h[0]*4, h[1]*4), least, 1, api.ErrOver)
	s, h, r := scale(0, 0)
	hold(t, told{"S just above 0", askForesee(s, h, r), answer{y: r - less}})
	s, h, _ = scale(915, 100)
	ofRows(t, "S of minus infinity", s, h, 1, 1, api.ErrOver)
}

// P15.2 to P15.6, P6: a step of each formula that goes over, none ahead of it.
func TestStepsThatGoOver(t *testing.T) {
	near := state(list(0, 0), 0x1p1023, 0x1.fae147ae147aep1022, 0x1.fae147ae147aep1022, 0x1p1023)
	apart := state(list(0, 0), 0x1p1023, 0, 0, 0x1p-1028)
	thrice := state(filled(3, most), unit(3).At...)
	low, row, r := scale(965, 0)
	lower, lowerRow, lowerR := scale(1020, 0)
	withoutA := []question{
		{s: apart, h: list(0x1p-525, 0x1p500), r: 0x1p-40},
		{s: near, h: list(-0x1.b2p-101, 0x1p-100), r: 0x1p816},
	}
	cases := []struct {
		call, step string
		q          question
	}{
		{"Predict", "X'", question{s: one(most, 1), f: square(2), q: square(0)}},
		{"Predict", "X'", question{s: thrice, f: mat(3, 3, 1, 1, -1, 0, 0, 0, 0, 0, 0), q: unit(3)}},
		{"Predict", "M", question{s: one(0, most), f: square(2), q: square(0)}},
		{"Predict", "M", question{s: state(list(0, 0), 1, 0, 0, most), f: square(0, 2, 0, 0), q: unit(2)}},
		{"Predict", "M f", question{s: one(0, 1), f: square(0x1p600), q: square(-most)}},
		{"Predict", "P' + q", question{s: one(0, most), f: square(1), q: square(most)}},
		{"Predict", "P' + q", question{s: state(list(0, 0), 1, 0, 0, most), f: unit(2), q: diagonal(1, 0x1p970)}},
		{"Foresee", "v", question{s: one(0, most), h: list(2), r: 1}},
		{"Foresee", "m", question{s: one(most, 1), h: list(2), r: 1}},
		{"Foresee", "m", question{s: thrice, h: list(1, 1, -1), r: 1}},
		{"Foresee", "h v", question{s: one(0, 1), h: list(0x1p600), r: 1}},
		{"Foresee", "S", question{s: one(0, most), h: list(1), r: most}},
		{"Update", "y", question{s: one(most, 1), h: list(1), r: 1, z: -most}},
		{"Update", "k", question{s: one(0, most), h: list(2 * least), r: least, z: 0}},
		{"Update", "k y", question{s: one(0, most), h: list(least), r: least, z: 2}},
		{"Update", "X + k y", question{s: one(most, most), h: list(least), r: least, z: 1}},
		{"Update", "X + k y", question{s: one(most, 0x1p1000), h: list(0x1p-500), r: 0x1p-10, z: 0x1p524 + 0x1p500}},
		{"Update", "X + k y", question{s: state(list(1, -most), 1, 0, 0, 0x1p1000), h: list(0, -0x1p-500), r: 0x1p-10, z: 0x1p524 + 0x1p500}},
		{"Update", "y y", question{s: one(0, 1), h: list(0), r: 0x1p600, z: 0x1p600}},
		{"Update", "y y", question{r: 1, z: -most}},
		{"Update", "score", question{s: one(0, 1), h: list(0), r: 0x1p-100, z: 0x1p500}},
		{"Update", "k h", withoutA[0]},
		{"Update", "B", withoutA[1]},
		{"Update", "B A", question{s: low, h: row, r: r, z: 0}},
		{"Update", "B A + k r k", question{s: one(0, most), h: list(0x1.cd11f17a7d336p-500), r: 0x1.9f34d07a8e7bbp+79, z: 0}},
		{"Short", "k v", question{s: lower, h: lowerRow, r: lowerR, z: 0}},
	}
	for _, c := range cases {
		for _, name := range alsoOver(c.call) {
			call := callOf(name)
			words := reckoned(func() answer { return call.words(c.q) })
			if name == c.call && words.step != c.step {
				t.Errorf("%s of %+v: %q goes over, not %q", name, c.q, words.step, c.step)
			}
			hold(t, told{name + ": " + c.step, call.ask(c.q), words})
		}
	}
	// The short form has no A: what goes over in it is no step of it.
	for _, q := range withoutA {
		got := callOf("Short").ask(q)
		hold(t, told{"Short without A", got, reckoned(func() answer { return callOf("Short").words(q) })})
		if got.err != api.OK {
			t.Errorf("Short of %+v: error %d", q, got.err)
		}
	}
}

// alsoOver are the calls that go over with one: who foresees is asked by all that update.
func alsoOver(call string) []string {
	switch call {
	case "Foresee":
		return []string{"Foresee", "Update", "Short"}
	case "Update", "Short":
		return []string{call, "Update", "Short"}
	}
	return []string{call}
}

// P15.5, P15.6: the exact look behind each form; the long one keeps what the short one loses; over ahead of it.
func TestLookBehindUpdates(t *testing.T) {
	s := one(0, 1)
	step := api.Step{Innov: 3, Var: 1, Score: 9, Gain: list(1)}
	hold(t,
		told{"the long form", askUpdate(s, list(1), 0x1p-60, 3), answer{s: one(3, 0x1p-60), steps: []api.Step{step}}},
		told{"the short form", askShort(s, list(1), 0x1p-60, 3), fault(api.ErrCovPos)},
		told{"the short form over", askShort(s, list(1), 0x1p-60, 0x1p600), fault(api.ErrOver)},
		told{"the long form at its end", askUpdate(s, list(0x1p30), least, 3), fault(api.ErrCovPos)},
		told{"the long form at its end, over", askUpdate(s, list(0x1p30), least, 0x1p600), fault(api.ErrOver)},
		told{"Rows at its end", askRows(s, mat(2, 1, 0, 0x1p30), list(1, least), list(3, 3)), faultAt(1, api.ErrCovPos)},
	)
}

// P15.7: Rows without rows, with one, with more; each number of rows, each of them refused.
func TestSomeRows(t *testing.T) {
	s := state(list(1, 2), 2, 1, 1, 2)
	hold(t,
		told{"none", askRows(s, mat(0, 2), nil, nil), answer{s: s}},
		told{"none of none", askRows(api.State{}, mat(0, 0), nil, nil), answer{}},
		told{"none of noughts", askRows(one(minus, 1), mat(0, 1), nil, nil), answer{s: one(minus, 1)}},
	)
	for n := 1; n <= 12; n++ {
		h, r, z := mat(n, 2), filled(n, 2), filled(n, 3)
		want := answer{s: s}
		for i := range n {
			h.At = append(h.At, 1, float64(i%3)-1)
			next := askUpdate(want.s, rowOf(h, i), 2, 3)
			want.s, want.steps = next.s, append(want.steps, next.steps...)
		}
		hold(t, told{"all", askRows(s, h, r, z), want})
		for i := range n {
			hold(t,
				told{"a variance", askRows(s, h, with(r, i, 0), z), faultAt(i, api.ErrVariance)},
				told{"a variance that isn't finite", askRows(s, h, with(r, i, inf), z), faultAt(i, api.ErrNumber)},
				told{"a value", askRows(s, h, r, with(z, i, nan)), faultAt(i, api.ErrNumber)},
				told{"over", askRows(s, h, r, with(z, i, most)), faultAt(i, api.ErrOver)},
				told{"the first of two", askRows(s, h, with(r, i, -1), with(z, n-1, nan)), faultAt(i, api.ErrVariance)},
			)
			if i < n-1 {
				hold(t, told{"the first of two, the other way", askRows(s, h, with(r, n-1, -1), with(z, i, nan)), faultAt(i, api.ErrNumber)})
			}
		}
	}
}

// P15.7: rows that don't go together: place 0, whatever row it is.
func TestRowsThatDontGoTogether(t *testing.T) {
	s, h := two(), mat(3, 2, 1, 0, 0, 1, 1, 1)
	right := filled(3, 1)
	for n := range 14 {
		if n != 3 {
			hold(t,
				told{"r", askRows(s, h, filled(n, 1), right), fault(api.ErrShape)},
				told{"z", askRows(s, h, right, filled(n, 1)), fault(api.ErrShape)},
				told{"both", askRows(s, h, filled(n, -1), filled(n, nan)), fault(api.ErrShape)},
				told{"without rows", askRows(s, mat(0, 2), filled(n+1, 1), nil), fault(api.ErrShape)},
				told{"without rows, values", askRows(s, mat(0, 2), nil, filled(n+1, 1)), fault(api.ErrShape)},
			)
		}
		if n != 2 && n < 13 {
			hold(t, told{"columns", askRows(s, mat(3, n, filled(3*n, 1)...), right, right), fault(api.ErrShape)}, told{"no rows of columns", askRows(s, mat(0, n), nil, nil), fault(api.ErrShape)})
		}
	}
	for _, m := range []api.Mat{mat(-1, 2), mat(13, 2, filled(26, 1)...), mat(3, 13), mat(3, math.MinInt), mat(math.MaxInt, 2)} {
		hold(t, told{"a range", askRows(s, m, right, right), fault(api.ErrRange)}, told{"a range, all wrong", askRows(s, m, list(nan), nil), fault(api.ErrRange)})
	}
	for _, m := range []api.Mat{mat(3, 2, 1, 0, 0, 1, 1), mat(3, 2, filled(7, 1)...), mat(3, 2)} {
		hold(t, told{"a shape", askRows(s, m, right, right), fault(api.ErrShape)})
	}
	for i := range 6 {
		for _, u := range unfit() {
			bad := mat(3, 2, with(h.At, i, u)...)
			hold(t,
				told{"a number of any row", askRows(s, bad, right, right), fault(api.ErrNumber)},
				told{"a number ahead of the variance", askRows(s, bad, list(-1, 1, 1), right), fault(api.ErrNumber)},
				told{"a number ahead of the shapes", askRows(s, bad, nil, nil), fault(api.ErrNumber)},
				told{"a number ahead of the columns", askRows(one(1, 1), bad, right, right), fault(api.ErrNumber)},
			)
		}
	}
}

// P15.8: in order, and over.
func TestTraces(t *testing.T) {
	hold(t,
		told{"in order", askTrace(api.State{X: filled(3, 0), P: diagonal(0x1p53, 1, 1)}), isNumber(0x1p53)},
		told{"in order, the other way", askTrace(api.State{X: filled(3, 0), P: diagonal(1, 1, 0x1p53)}), isNumber(0x1p53 + 2)},
		told{"what lies beside it isn't asked", askTrace(state(list(1, 2), 2, -1, -1, 3)), isNumber(5)},
		told{"the greatest", askTrace(one(0, most)), isNumber(most)},
		told{"just not over", askTrace(state(list(0, 0), most, 0, 0, 0x1p969)), isNumber(most)},
		told{"over", askTrace(state(list(0, 0), most, 0, 0, 0x1p970)), fault(api.ErrOver)},
		told{"over", askTrace(api.State{X: filled(12, 0), P: diagonal(filled(12, 0x1p1021)...)}), fault(api.ErrOver)},
		told{"not over", askTrace(api.State{X: filled(7, 0), P: diagonal(filled(7, 0x1p1021)...)}), isNumber(0x1.cp1023)},
		told{"the least", askTrace(api.State{X: filled(12, 0), P: diagonal(filled(12, least)...)}), isNumber(12 * least)},
	)
}

// P15.5, P15.6: signs of noughts are what the steps give: what A is off its diagonal is +0 less a product.
func TestSignsOfNoughts(t *testing.T) {
	s := state(list(minus, minus), 1, minus, minus, 1)
	for _, h := range [][]float64{list(0, 0), list(minus, minus), list(0, minus)} {
		want := answer{s: state(list(0, 0), 1, 0, 0, 1), steps: []api.Step{{Var: 1, Gain: list(0, 0)}}}
		hold(t, told{"Update", askUpdate(s, h, 1, 0), want})
		want.s.P = s.P
		hold(t, told{"Short", askShort(s, h, 1, 0), want})
	}
	hold(t,
		told{"an innovation of -0", askUpdate(one(minus, 1), list(0), 1, minus), answer{s: one(minus, 1), steps: []api.Step{{Innov: minus, Var: 1, Gain: list(0)}}}},
		told{"foreseen", askForesee(one(minus, 1), list(minus), 1), answer{x: 0, y: 1}},
		told{"predicted", askPredict(s, unit(2), square(minus, minus, minus, minus)), isState(list(0, 0), 1, 0, 0, 1)},
	)
}
