package info_test

import (
	"math"
	"testing"

	"binnacle/api"
	"binnacle/info"
	"binnacle/kalman"
)

// told is a case: what was answered, and what should have been.
type told struct {
	what      string
	got, want answer
}

func hold(t *testing.T, cases ...told) {
	t.Helper()
	for _, c := range cases {
		if !c.got.is(c.want) {
			t.Errorf("%s: %+v, not %+v", c.what, c.got, c.want)
		}
	}
}

func isInfo(v []float64, y ...float64) answer { return answer{a: information(v, y...)} }

func isState(x []float64, p ...float64) answer { return answer{s: state(x, p...)} }

func isRoot(z []float64, r ...float64) answer { return answer{root: rootOf(z, r...)} }

func isLeft(left float64, z []float64, r ...float64) answer {
	return answer{root: rootOf(z, r...), left: left}
}

func askCheck(a api.Info) answer { return fault(info.Check(a)) }

func askOf(s api.State) answer { return saysInfo(info.Of(s)) }

func askState(a api.Info) answer { return saysState(info.State(a)) }

func askUpdate(a api.Info, h []float64, r, z float64) answer {
	return saysInfo(info.Update(a, h, r, z))
}

func askRows(a api.Info, h api.Mat, r, z []float64) answer {
	return saysRows(info.Rows(a, h, r, z))
}

func askJoin(a, b api.Info) answer { return saysInfo(info.Join(a, b)) }

func askPredict(a api.Info, f, q api.Mat) answer { return saysInfo(info.Predict(a, f, q)) }

func askCheckRoot(a api.RootInfo) answer { return fault(info.CheckRoot(a)) }

func askRootOf(a api.Info) answer { return saysRoot(info.RootOf(a)) }

func askUnroot(a api.RootInfo) answer { return saysInfo(info.Unroot(a)) }

func askUpdateRoot(a api.RootInfo, h []float64, r, z float64) answer {
	return saysLeft(info.UpdateRoot(a, h, r, z))
}

func askMeans(a api.RootInfo) answer { return saysMeans(info.Means(a)) }

// one is an information of one number.
func one(v, y float64) api.Info { return information(list(v), y) }

// two is one of two.
func two() api.Info { return information(list(1, 2), 1, 0, 0, 1) }

// turnedBy is a pair behind a rotation, each step rounded (of constants Go would take them exactly).
func turnedBy(c, s, x, y float64) (root, row float64) {
	return float64(c*x) + float64(s*y), float64(c*y) - float64(s*x)
}

// oneRoot is a root of one number.
func oneRoot(z, r float64) api.RootInfo { return rootOf(list(z), r) }

func twoRoot() api.RootInfo { return rootOf(list(1, 2), 1, 0, 0, 1) }

// The chapter's examples, as they stand.
func TestExamples(t *testing.T) {
	z, left := turnedBy(0.6, 0.8, 6, 13)
	if z != 14 || math.Abs(left-3) > 0x1p-50 {
		t.Error("14, as rounded:", z, left)
	}
	hold(t,
		told{"1", askState(one(8, 4)), isState(list(2), 0.25)},
		told{"1: predicted", askPredict(one(8, 4), square(1), square(0.25)), isInfo(list(3.9999999999999996), 1.9999999999999998)},
		told{"1: updated", askUpdate(one(8, 4), list(1), 0.25, 6), isInfo(list(32), 8)},
		told{"1: a row", askRows(one(8, 4), mat(1, 1, 1), list(0.25), list(6)), isInfo(list(32), 8)},
		told{"2: Means", askMeans(oneRoot(6, 3)), answer{x: list(2)}},
		told{"2: updated", askUpdateRoot(oneRoot(6, 3), list(4), 1, 13), isLeft(left, list(z), 5)},
		told{"3: not positive", askCheck(information(list(0, 0), 1, 1, 1, 1)), fault(api.ErrInfo)},
		told{"3: below the diagonal", askCheckRoot(rootOf(list(0, 0), 1, 0, 1, 1)), fault(api.ErrUpperTri)},
		told{"3: a variance", askUpdate(one(8, 4), list(1), -1, 6), fault(api.ErrVariance)},
	)
	if s := askState(one(32, 8)).s; math.Abs(s.X[0]-4) > 0x1p-50 || math.Abs(s.P.At[0]-0.125) > 0x1p-55 {
		t.Error("1: X 4:", s)
	}
}

// infos are some that may be, and some that may not, each with why.
func infos() []told {
	up := math.Nextafter(0.5, 1)
	v := list(1, 2)
	a := func(v []float64, y api.Mat) api.Info { return api.Info{Y: y, V: v} }
	fine := []api.Info{
		{}, {V: []float64{}, Y: mat(0, 0, []float64{}...)},
		one(0, 1), one(minus, least), one(-most, most), one(least, 0x1p-1022),
		information(v, 2, 1, 1, 2), information(v, 1, 1, 1, 1+0x1p-52), information(v, 1, -0.5, -0.5, 1), information(v, 1, 0.5, 0.5, up/2), information(v, 1, minus, minus, 1),
		information(v, most, 0, 0, least), information(list(most, -most), most, 1, 1, 0x1p-1023), information(v, 0x1p-500, 0x1p-501, 0x1p-501, 0x1p-500), a(v, tight()), a(v, unsteady()), a(filled(4, 1), far()),
		information(filled(3, 1), 2, -1, 0, -1, 2, -1, 0, -1, 2),
		a(filled(12, 3), unit(12)), a(filled(12, most), diagonal(filled(12, least)...)),
	}
	var out []told
	for _, f := range fine {
		out = append(out, told{want: answer{a: f}})
	}
	add := func(err api.Errno, l ...api.Info) {
		for _, f := range l {
			out = append(out, told{want: answer{a: f, err: err}})
		}
	}
	add(api.ErrRange, a(v, mat(-1, 2)), a(v, mat(2, -1)), a(v, mat(13, 13, filled(169, 1)...)), a(v, mat(0, 13)), a(nil, mat(13, 0)), a(nil, mat(math.MinInt, 0)), a(v, mat(2, math.MaxInt, 1, 0, 0, 1)), a(nil, mat(math.MaxInt, math.MaxInt)), a(filled(13, 0), diagonal(filled(13, 1)...)))
	add(api.ErrShape, a(v, mat(2, 2, 1, 0, 0)), a(v, mat(2, 2, 1, 0, 0, 1, 0)), a(v, mat(2, 2)), a(nil, mat(0, 0, 1)),
		a(v, mat(2, 1, 1, 1)), a(v, mat(1, 2, 1, 1)), a(list(1), mat(1, 2, 1, 1)), a(list(1), mat(2, 1, 1, 1)), a(nil, mat(0, 2)), a(v, mat(2, 0)), a(list(1), unit(2)), a(list(1, 2, 3), unit(2)), a(nil, unit(1)), a(list(1), mat(0, 0)), a(filled(11, 1), unit(12)), a(filled(13, 1), unit(12)))
	for _, u := range unfit() {
		add(api.ErrNumber, one(1, u), one(u, 1), information(list(1, u), 1, 0, 0, 1), information(list(u, 1), 1, 0, 0, 1), information(v, u, 0, 0, 1), information(v, 1, u, 0, 1), information(v, 1, 0, u, 1), information(v, 1, u, u, 1), information(v, 1, 0, 0, u), a(filled(12, u), unit(12)))
	}
	add(api.ErrCovSym, information(v, 1, 2, 0, 1), information(v, 1, 0, minus, 1), information(v, 1, minus, 0, 1), information(v, 1, 0.5, up, 1), information(v, 1, up, 0.5, 1), information(v, 1, 0.5, -0.5, 1), information(v, 1, 0, least, 1),
		information(filled(3, 1), 1, 0, 0, 0, 1, 0.25, 0, 0.5, 1), information(filled(3, 1), 1, 0, 0.25, 0, 1, 0, 0.5, 0, 1), a(filled(12, 1), mat(12, 12, with(unit(12).At, 11, minus)...)), a(filled(12, 1), mat(12, 12, with(unit(12).At, 132, least)...)))
	add(api.ErrInfo, one(1, 0), one(1, minus), one(1, -1), one(1, -least), information(v, 1, 1, 1, 1), information(v, 1, 1, 1, 1-0x1p-53), information(v, 1, 2, 2, 1), information(v, 0, 0, 0, 1), information(v, 1, 0, 0, 0), information(v, 1, 0, 0, minus), information(v, -1, 0, 0, 1), information(v, 1, 0, 0, -1), information(v, 0, 1, 1, 0), information(v, 0, 0, 0, 0),
		information(filled(3, 1), 2, -1, -1, -1, 2, -1, -1, -1, 2), information(filled(3, 1), 1, 1, 1, 1, 2, 2, 1, 2, 2), information(filled(3, 1), 1, 0, 0, 0, 1, 0, 0, 0, -least),
		a(filled(12, 1), diagonal(append(filled(11, 1), 0)...)), a(filled(12, 1), diagonal(append(list(-1), filled(11, 1)...)...)), information(v, most, most, most, most), information(v, least, least, least, least))
	return out
}

// takes tells whether a call's first argument is an information.
func takes(name string) bool {
	switch name {
	case "Check", "State", "Update", "Rows", "Join", "Predict", "RootOf":
		return true
	}
	return false
}

// questionsOf are one whose arguments go with so many numbers, and one of which all are wrong.
func questionsOf(n int) (right, wrong question) {
	low := min(n, 12)
	right = question{b: api.Info{Y: unit(low), V: filled(low, 1)}, f: unit(low), q: unit(low), h: filled(n, 1), r: 1, z: 1, rows: mat(1, low, filled(low, 1)...), rs: list(1), zs: list(1)}
	wrong = question{b: api.Info{Y: mat(-1, 0)}, f: mat(-1, 0), q: mat(1, 1, nan), h: filled(n+1, nan), r: nan, z: inf, rows: mat(13, 0), zs: list(nan)}
	return right, wrong
}

// P17.1 and the rule that each call looks at its first argument first: whatever else is wrong, what is wrong with the information is told, with zero values beside it. Join tells it of its second one too.
func TestInfos(t *testing.T) {
	for _, c := range infos() {
		hold(t, told{"Check", askCheck(c.want.a), fault(c.want.err)})
		if c.want.err == api.OK {
			continue
		}
		right, wrong := questionsOf(len(c.want.a.V))
		right.a, wrong.a = c.want.a, c.want.a
		for _, call := range calls() {
			if takes(call.name) {
				hold(t, told{call.name, call.ask(right), fault(c.want.err)}, told{call.name + " with more wrong", call.ask(wrong), fault(c.want.err)})
			}
		}
		hold(t,
			told{"the second to be joined", askJoin(two(), c.want.a), fault(c.want.err)},
			told{"the second, of another size", askJoin(api.Info{}, c.want.a), fault(c.want.err)},
			told{"both", askJoin(c.want.a, c.want.a), fault(c.want.err)},
		)
	}
}

// roots are some that may be, and some that may not, each with why.
func roots() []told {
	z := list(1, 2)
	a := func(z []float64, r api.Mat) api.RootInfo { return api.RootInfo{R: r, Z: z} }
	wide := noughts(12)
	for i := range wide.At {
		if i/12 <= i%12 {
			wide.At[i] = float64(1 + i)
		}
	}
	fine := []api.RootInfo{
		{}, {Z: []float64{}, R: mat(0, 0, []float64{}...)},
		oneRoot(0, 1), oneRoot(minus, least), oneRoot(-most, most), oneRoot(least, 0x1p-1022),
		rootOf(z, 1, 7, 0, 1), rootOf(z, 1, minus, 0, 1), rootOf(z, least, -most, 0, least), rootOf(z, most, 0, 0, least), rootOf(list(most, -most), 1, 1, 0, 0x1p-1074),
		rootOf(filled(3, 1), 2, -1, minus, 0, 2, -1, 0, 0, 2),
		a(filled(12, 3), unit(12)), a(filled(12, most), diagonal(filled(12, least)...)), a(filled(12, minus), wide),
	}
	var out []told
	for _, f := range fine {
		out = append(out, told{want: answer{root: f}})
	}
	add := func(err api.Errno, l ...api.RootInfo) {
		for _, f := range l {
			out = append(out, told{want: answer{root: f, err: err}})
		}
	}
	add(api.ErrRange, a(z, mat(-1, 2)), a(z, mat(2, -1)), a(z, mat(13, 13, filled(169, 1)...)), a(z, mat(0, 13)), a(nil, mat(13, 0)), a(nil, mat(math.MinInt, 0)), a(z, mat(2, math.MaxInt, 1, 0, 0, 1)), a(nil, mat(math.MaxInt, math.MaxInt)), a(filled(13, 0), diagonal(filled(13, 1)...)))
	add(api.ErrShape, a(z, mat(2, 2, 1, 0, 0)), a(z, mat(2, 2, 1, 0, 0, 1, 0)), a(z, mat(2, 2)), a(nil, mat(0, 0, 1)),
		a(z, mat(2, 1, 1, 0)), a(z, mat(1, 2, 1, 1)), a(list(1), mat(1, 2, 1, 0)), a(list(1), mat(2, 1, 1, 0)), a(nil, mat(0, 2)), a(z, mat(2, 0)), a(list(1), unit(2)), a(list(1, 2, 3), unit(2)), a(nil, unit(1)), a(list(1), mat(0, 0)), a(filled(11, 1), unit(12)), a(filled(13, 1), unit(12)))
	for _, u := range unfit() {
		add(api.ErrNumber, oneRoot(1, u), oneRoot(u, 1), rootOf(list(1, u), 1, 0, 0, 1), rootOf(list(u, 1), 1, 0, 0, 1), rootOf(z, u, 0, 0, 1), rootOf(z, 1, u, 0, 1), rootOf(z, 1, 0, u, 1), rootOf(z, 1, u, u, 1), rootOf(z, 1, 0, 0, u), a(filled(12, u), unit(12)))
	}
	add(api.ErrUpperTri, oneRoot(1, 0), oneRoot(1, minus), oneRoot(1, -1), oneRoot(1, -least), oneRoot(1, -most), rootOf(z, 1, 0, 1, 1), rootOf(z, 1, 1, 1, 2), rootOf(z, 1, 0, -1, 1), rootOf(z, 1, 0, minus, 1), rootOf(z, 1, minus, minus, 1), rootOf(z, 1, 0, least, 1),
		rootOf(z, 0, 0, 0, 1), rootOf(z, 1, 0, 0, 0), rootOf(z, minus, 0, 0, 1), rootOf(z, 1, 0, 0, minus), rootOf(z, -1, 0, 0, 1), rootOf(z, 1, 0, 0, -1), rootOf(z, 0, 0, 1, 0),
		rootOf(filled(3, 1), 1, 0, 0, 0, 1, 0, minus, 0, 1), rootOf(filled(3, 1), 1, 0, 0, 0, 1, 0, 0, 2, 1), rootOf(filled(3, 1), 1, 0, 0, 0, -1, 0, 0, 0, 1), rootOf(filled(3, 1), 1, 0, 3, 0, 0, 0, 0, 0, 1),
		a(filled(12, 1), diagonal(append(filled(11, 1), 0)...)), a(filled(12, 1), diagonal(append(list(-1), filled(11, 1)...)...)), a(filled(12, 1), mat(12, 12, with(unit(12).At, 132, minus)...)), a(filled(12, 1), mat(12, 12, with(unit(12).At, 142, 1)...)))
	return out
}

// P17.1 and the rule that each call looks at its first argument first: likewise of roots.
func TestRoots(t *testing.T) {
	for _, c := range roots() {
		hold(t, told{"CheckRoot", askCheckRoot(c.want.root), fault(c.want.err)})
		if c.want.err == api.OK {
			continue
		}
		right, wrong := questionsOf(len(c.want.root.Z))
		right.root, wrong.root = c.want.root, c.want.root
		for _, call := range callsOfRoots() {
			hold(t, told{call.name, call.ask(right), fault(c.want.err)}, told{call.name + " with more wrong", call.ask(wrong), fault(c.want.err)})
		}
	}
}

// P17.1 to P17.7: without rows, of one number, of MaxDim numbers.
func TestSizes(t *testing.T) {
	none, bare := api.Info{}, api.RootInfo{}
	a := api.Info{Y: diagonal(filled(12, 4)...), V: filled(12, 8)}
	last := append(filled(11, 0), 4)
	root := api.RootInfo{R: diagonal(filled(12, 3)...), Z: filled(12, 6)}
	z, left := turnedBy(0.6, 0.8, 6, 13)
	behind := api.RootInfo{R: diagonal(append(filled(11, 3), 5)...), Z: append(filled(11, 6), z)}
	seen := api.Info{Y: diagonal(append(filled(11, 4), 12)...), V: append(filled(11, 8), 18)}
	hold(t,
		told{"of none", askOf(api.State{}), answer{}},
		told{"none's state", askState(none), answer{}},
		told{"none updated", askUpdate(none, nil, 2, 6), answer{}},
		told{"none, rows", askRows(none, mat(2, 0), list(2, 2), list(6, 6)), answer{}},
		told{"none, a row refused", askRows(none, mat(2, 0), list(2, 0), list(6, 6)), faultAt(1, api.ErrVariance)},
		told{"none joined", askJoin(none, none), answer{}},
		told{"none predicted", askPredict(none, none.Y, none.Y), answer{}},
		told{"none's root", askRootOf(none), answer{}},
		told{"none of a root", askUnroot(bare), answer{}},
		told{"none's means", askMeans(bare), answer{}},
		told{"none's root updated", askUpdateRoot(bare, nil, 4, 6), answer{left: 3}},
		told{"none's root, over", askUpdateRoot(bare, nil, 0.25, most), fault(api.ErrOver)},
		told{"none's root, a variance", askUpdateRoot(bare, nil, 0, 6), fault(api.ErrVariance)},
		told{"of one", askOf(state(list(7), 0.25)), isInfo(list(28), 4)},
		told{"one's state", askState(one(8, 4)), isState(list(2), 0.25)},
		told{"one joined", askJoin(one(8, 4), one(1, 2)), isInfo(list(9), 6)},
		told{"one predicted", askPredict(one(8, 4), square(2), square(3)), isInfo(list(1), 0.25)},
		told{"one's root", askRootOf(one(8, 4)), isRoot(list(4), 2)},
		told{"one of a root", askUnroot(oneRoot(6, 3)), isInfo(list(18), 9)},
		told{"of twelve", askOf(api.State{X: filled(12, 2), P: diagonal(filled(12, 0.25)...)}), answer{a: a}},
		told{"twelve's state", askState(a), answer{s: api.State{X: filled(12, 2), P: diagonal(filled(12, 0.25)...)}}},
		told{"twelve updated", askUpdate(a, last, 2, 5), answer{a: seen}},
		told{"twelve, a row", askRows(a, mat(1, 12, last...), list(2), list(5)), answer{a: seen}},
		told{"twelve joined", askJoin(a, a), answer{a: api.Info{Y: diagonal(filled(12, 8)...), V: filled(12, 16)}}},
		told{"twelve predicted", askPredict(a, diagonal(filled(12, 2)...), diagonal(filled(12, 3)...)), answer{a: api.Info{Y: diagonal(filled(12, 0.25)...), V: filled(12, 1)}}},
		told{"twelve's root", askRootOf(a), answer{root: api.RootInfo{R: diagonal(filled(12, 2)...), Z: filled(12, 4)}}},
		told{"twelve of a root", askUnroot(root), answer{a: api.Info{Y: diagonal(filled(12, 9)...), V: filled(12, 18)}}},
		told{"twelve's means", askMeans(root), answer{x: filled(12, 2)}},
		told{"twelve's root updated", askUpdateRoot(root, last, 1, 13), answer{root: behind, left: left}},
	)
}

// P17.2: states that kalman refuses; inverses that are refused, go over, or aren't positive; each error ahead of those behind it.
func TestOfStates(t *testing.T) {
	x := list(1, 2)
	up := math.Nextafter(0.5, 1)
	refused := []told{
		{"a range", askOf(api.State{X: x, P: mat(13, 2)}), fault(api.ErrRange)},
		{"a shape", askOf(api.State{X: x, P: mat(2, 2, 1)}), fault(api.ErrShape)},
		{"not square", askOf(api.State{X: x, P: mat(2, 1, 1, 1)}), fault(api.ErrShape)},
		{"X too short", askOf(state(list(1), 1, 0, 0, 1)), fault(api.ErrShape)},
		{"X too long", askOf(state(filled(3, 1), 1, 0, 0, 1)), fault(api.ErrShape)},
		{"unlike", askOf(state(x, 1, 0.5, up, 1)), fault(api.ErrCovSym)},
		{"unlike noughts", askOf(state(x, 1, 0, minus, 1)), fault(api.ErrCovSym)},
		{"singular", askOf(state(x, 1, 1, 1, 1)), fault(api.ErrCovPos)},
		{"nought", askOf(state(list(1), 0)), fault(api.ErrCovPos)},
		{"below 0", askOf(state(list(1), -4)), fault(api.ErrCovPos)},
		{"no triangle", askOf(api.State{X: x, P: tight()}), fault(api.ErrPositive)},
		{"a triangle over", askOf(api.State{X: filled(4, 1), P: far()}), fault(api.ErrOver)},
		{"an inverse over", askOf(state(list(0), least)), fault(api.ErrOver)},
		{"one of two over", askOf(state(list(0, 0), 1, 0, 0, least)), fault(api.ErrOver)},
		{"an inverse that isn't positive", askOf(api.State{X: x, P: unsteady()}), fault(api.ErrInfo)},
		{"the same ahead of V over", askOf(api.State{X: list(most, -most), P: unsteady()}), fault(api.ErrInfo)},
		{"V over", askOf(state(list(most), 0.25)), fault(api.ErrOver)},
		{"V over by its sum", askOf(state(list(most, -most), 4, 2, 2, 1.0625)), fault(api.ErrOver)},
		{"no triangle ahead of V over", askOf(api.State{X: list(most, -most), P: tight()}), fault(api.ErrPositive)},
	}
	for _, u := range unfit() {
		refused = append(refused, told{"a number", askOf(state(list(1), u)), fault(api.ErrNumber)}, told{"a mean", askOf(state(list(u), 1)), fault(api.ErrNumber)}, told{"a mean of one that isn't positive", askOf(state(list(u), -1)), fault(api.ErrNumber)})
	}
	hold(t, refused...)
	hold(t,
		told{"just positive", askOf(state(x, 1, 1, 1, 1+0x1p-52)), isInfo(list(-0x1p52+1, 0x1p52), 0x1p52+1, -0x1p52, -0x1p52, 0x1p52)},
		told{"two", askOf(state(list(1, 3), 4, 2, 2, 5)), isInfo(list(-0.0625+0.0, 0.625), 0.3125, -0.125, -0.125, 0.25)},
		told{"V in order", askOf(state(list(0x1p53, 1, 1), diagonal(0.25, 1, 1).At...)), isInfo(list(0x1p55, 1, 1), diagonal(4, 1, 1).At...)},
		told{"the greatest", askOf(state(list(1), 0x1p1022)), isInfo(list(0x1p-1022), 0x1p-1022)},
		told{"the least", askOf(state(list(0x1p-1022), 0x1p-1022)), isInfo(list(1), 0x1p1022)},
	)
}

// P17.2: informations whose inverse is refused, goes over, or isn't positive; whose means go over.
func TestStates(t *testing.T) {
	v := list(1, 2)
	hold(t,
		told{"no triangle", askState(api.Info{Y: tight(), V: v}), fault(api.ErrPositive)},
		told{"a triangle over", askState(api.Info{Y: far(), V: filled(4, 1)}), fault(api.ErrOver)},
		told{"an inverse over", askState(one(0, least)), fault(api.ErrOver)},
		told{"one of two over", askState(information(list(0, 0), 1, 0, 0, least)), fault(api.ErrOver)},
		told{"an inverse that isn't positive", askState(api.Info{Y: unsteady(), V: v}), fault(api.ErrCovPos)},
		told{"the same ahead of means over", askState(api.Info{Y: unsteady(), V: list(most, -most)}), fault(api.ErrCovPos)},
		told{"means over", askState(one(most, 0.25)), fault(api.ErrOver)},
		told{"no triangle ahead of means over", askState(api.Info{Y: tight(), V: list(most, -most)}), fault(api.ErrPositive)},
		told{"two", askState(information(list(8, 9), 4, 2, 2, 5)), isState(list(1.375, 1.25), 0.3125, -0.125, -0.125, 0.25)},
		told{"just positive", askState(information(list(0, 1), 1, 1, 1, 1+0x1p-52)), isState(list(-0x1p52, 0x1p52), 0x1p52+1, -0x1p52, -0x1p52, 0x1p52)},
		told{"noughts", askState(information(list(minus, 0), 4, minus, minus, 0.25)), reckoned(func() answer { return answer{s: wordsOfState(information(list(minus, 0), 4, minus, minus, 0.25))} })},
		told{"the greatest", askState(one(0x1p1022, 0x1p1022)), isState(list(1), 0x1p-1022)},
	)
}

// ofRows asks the calls that take a row: what they say of it, all alike.
func ofRows(t *testing.T, what string, n int, h []float64, r, z float64, err api.Errno) {
	t.Helper()
	a, root := api.Info{Y: unit(n), V: filled(n, 1)}, api.RootInfo{R: unit(n), Z: filled(n, 1)}
	hold(t, told{what + ", Update", askUpdate(a, h, r, z), fault(err)}, told{what + ", UpdateRoot", askUpdateRoot(root, h, r, z), fault(err)})
	if len(h) == n && isFiniteList(h) {
		hold(t, told{what + ", Rows", askRows(a, mat(1, n, h...), list(r), list(z)), fault(err)})
	}
}

// P17.3, P17.7: rows, variances and values that may not be.
func TestRowsThatMayNotBe(t *testing.T) {
	for n := range 14 {
		if n != 2 {
			ofRows(t, "a length", 2, filled(n, 1), 1, 1, api.ErrShape)
			ofRows(t, "a length, all wrong", 2, filled(n, nan), -1, inf, api.ErrShape)
		}
	}
	ofRows(t, "none", 2, nil, 1, 1, api.ErrShape)
	ofRows(t, "of no rows", 0, list(1), 1, 1, api.ErrShape)
	for _, u := range unfit() {
		for _, h := range [][]float64{list(u, 1), list(1, u), list(u, u)} {
			ofRows(t, "a row", 2, h, 1, 1, api.ErrNumber)
			ofRows(t, "a row and a variance", 2, h, -1, 1, api.ErrNumber)
		}
		ofRows(t, "a variance", 2, list(1, 1), u, 1, api.ErrNumber)
		ofRows(t, "a value", 2, list(1, 1), 1, u, api.ErrNumber)
		ofRows(t, "a value of no rows", 0, nil, 1, u, api.ErrNumber)
		ofRows(t, "a value ahead of what goes over", 1, list(most), 1, u, api.ErrNumber)
		ofRows(t, "a variance below 0 ahead of a value", 2, list(1, 1), -1, u, api.ErrVariance)
	}
	for _, r := range list(0, minus, -least, -1, -most) {
		ofRows(t, "a variance", 2, list(1, 1), r, 1, api.ErrVariance)
		ofRows(t, "a variance ahead of what goes over", 1, list(most), r, 1, api.ErrVariance)
		ofRows(t, "a variance of no rows", 0, nil, r, 1, api.ErrVariance)
	}
}

// P17.3, P17.7: the least and the greatest variance are variances; rows of noughts.
func TestVariances(t *testing.T) {
	a, root := one(3, 2), oneRoot(3, 2)
	tiny := 0x1p-537
	z, left := turnedBy(0.8, 0.6, 3, 1)
	hold(t,
		told{"the least", askUpdate(a, list(tiny), least, tiny), isInfo(list(4), 3)},
		told{"the least, over", askUpdate(a, list(1), least, 0), fault(api.ErrOver)},
		told{"the least of a row of noughts", askUpdate(a, list(minus), least, 5), isInfo(list(3), 2)},
		told{"the greatest", askUpdate(a, list(0x1p512), most, 0x1p512), fault(api.ErrOver)},
		told{"the greatest, just not over", askUpdate(a, list(0x1p511), most, 0x1p511), isInfo(list(3.25), 2.25)},
		told{"the greatest, lost", askUpdate(a, list(1), most, 1), answer{a: a}},
		told{"the least, a root", askUpdateRoot(root, list(1.5*tiny), least, tiny), isLeft(left, list(z), 2.5)},
		told{"the least, a root over", askUpdateRoot(root, list(0x1p500), least, 0), fault(api.ErrOver)},
		told{"the least of a row of noughts, a root", askUpdateRoot(root, list(minus), least, tiny), isLeft(1, list(3), 2)},
		told{"the greatest, a root", askUpdateRoot(root, list(0x1p512), most, 0), rootByWords(root, list(0x1p512), most, 0)},
		told{"the greatest, nothing is left", askUpdateRoot(root, list(0x1p-600), most, 0x1p-600), isLeft(0, list(3), 2)},
	)
}

// thrice is an information of three numbers, all of whose V are as great as can be.
func thrice() api.Info { return api.Info{Y: unit(3), V: filled(3, most)} }

// P17.2 to P17.7, P6: each step of each formula that goes over, none ahead of it.
func TestStepsThatGoOver(t *testing.T) {
	half := 0x1.39p-537 // its square is rounded down, to the least number: it is more than that one's root
	cases := []struct {
		call, step string
		q          question
	}{
		{"Of", "inverse", question{s: state(list(0), least)}},
		{"Of", "inverse", question{s: api.State{X: filled(4, 0), P: far()}}},
		{"Of", "Y X", question{s: state(list(most), 0.25)}},
		{"Of", "sum of Y X", question{s: state(list(0x1.8p1023, 0x1.8p1023), 2, -1, -1, 1)}},
		{"State", "inverse", question{a: one(0, least)}},
		{"State", "inverse", question{a: api.Info{Y: far(), V: filled(4, 0)}}},
		{"State", "solve", question{a: one(most, 0.25)}},
		{"Update", "h h", question{a: one(0, 1), h: list(0x1p512), r: most}},
		{"Update", "h h", question{a: two(), h: list(1, 0x1p512), r: most}},
		{"Update", "h h", question{a: two(), h: list(0x1p600, 0x1p500), r: 0x1p600}},
		{"Update", "h h / r", question{a: one(0, 1), h: list(1), r: least}},
		{"Update", "h h / r", question{a: two(), h: list(1, 0x1p500), r: 0x1p-100}},
		{"Update", "Y + h h / r", question{a: one(0, most), h: list(0x1p500), r: 0x1p-20}},
		{"Update", "Y + h h / r", question{a: information(list(0, 0), 1, 0, 0, most), h: list(0, 0x1p500), r: 0x1p-20}},
		{"Update", "h z", question{a: one(0, 1), h: list(2), r: most, z: most}},
		{"Update", "h z", question{a: two(), h: list(0, 2), r: 4, z: -most}},
		{"Update", "h z / r", question{a: one(0, 1), h: list(1), r: 0.5, z: most}},
		{"Update", "V + h z / r", question{a: one(most, 1), h: list(1), r: 1, z: most}},
		{"Update", "V + h z / r", question{a: information(list(0, -most), 1, 0, 0, 1), h: list(0, 1), r: 1, z: -most}},
		{"Join", "Y + Y", question{a: one(0, most), b: one(0, most)}},
		{"Join", "Y + Y", question{a: information(list(0, 0), 1, 0, 0, most), b: information(list(0, 0), 1, 0, 0, 0x1p970)}},
		{"Join", "V + V", question{a: one(most, 1), b: one(most, 1)}},
		{"Join", "V + V", question{a: information(list(0, -most), 1, 0, 0, 1), b: information(list(0, -most), 1, 0, 0, 1)}},
		{"Predict", "inverse", question{a: one(0, least), f: unit(1), q: unit(1)}},
		{"Predict", "solve", question{a: one(most, 0.25), f: unit(1), q: unit(1)}},
		{"Predict", "predict", question{a: one(8, 4), f: square(most), q: unit(1)}},
		{"Predict", "inverse", question{a: one(0, 1), f: noughts(1), q: square(least)}},
		{"Predict", "Y X", question{a: one(most, 1), f: unit(1), q: square(-0.75)}},
		{"RootOf", "triangle", question{a: api.Info{Y: far(), V: filled(4, 0)}}},
		{"RootOf", "lower", question{a: one(most, 0x1p-4)}},
		{"RootOf", "lower", question{a: information(list(0, 0x1p1000), 1, 0, 0, 0x1p-1000)}},
		{"Unroot", "square", question{root: oneRoot(0, 0x1p512)}},
		{"Unroot", "square", question{root: rootOf(list(0, 0), 1, 0x1.7p511, 0, 0x1.7p511)}},
		{"Unroot", "L Z", question{root: oneRoot(most, 2)}},
		{"Unroot", "L Z", question{root: rootOf(list(0, most), 1, 0, 0, 2)}},
		{"Unroot", "sum of L Z", question{root: rootOf(list(most, most), 1, 1, 0, 1)}},
		{"Unroot", "sum of L Z", question{root: rootOf(list(most, most, -most), 1, 0, 1, 0, 1, 1, 0, 0, 1)}},
		{"Means", "upper", question{root: oneRoot(most, 0.5)}},
		{"Means", "upper", question{root: rootOf(list(0, 2), 1, 1, 0, least)}},
		{"UpdateRoot", "w", question{root: oneRoot(0, 1), h: list(most), r: 0.25}},
		{"UpdateRoot", "w", question{root: twoRoot(), h: list(0, 0x1p600), r: least}},
		{"UpdateRoot", "e", question{root: oneRoot(0, 1), h: list(0), r: 0.25, z: most}},
		{"UpdateRoot", "e", question{r: 0.25, z: -most}},
		{"UpdateRoot", "p p", question{root: oneRoot(0, 0x1p512), h: list(1), r: 1}},
		{"UpdateRoot", "p p", question{root: rootOf(list(0, 0), 1, 0, 0, 0x1p512), h: list(0, 1), r: 1}},
		{"UpdateRoot", "w w", question{root: oneRoot(0, 1), h: list(0x1p512), r: 1}},
		{"UpdateRoot", "p p + w w", question{root: oneRoot(0, 0x1.7p511), h: list(0x1.7p511), r: 1}},
		{"UpdateRoot", "c R", question{root: rootOf(list(0, 0), half, most, 0, 1), h: list(least, 0), r: 1}},
		{"UpdateRoot", "s w", question{root: rootOf(list(0, 0), least, 0, 0, 1), h: list(half, most), r: 1}},
		{"UpdateRoot", "c R + s w", question{root: rootOf(list(0, 0), 3, most, 0, 1), h: list(4, most), r: 1}},
		{"UpdateRoot", "c w", question{root: rootOf(list(0, 0), half, 0, 0, 1), h: list(least, most), r: 1}},
		{"UpdateRoot", "s R", question{root: rootOf(list(0, 0), least, most, 0, 1), h: list(half, 0), r: 1}},
		{"UpdateRoot", "c w - s R", question{root: rootOf(list(0, 0), 3, -most, 0, 1), h: list(4, most), r: 1}},
		{"UpdateRoot", "c Z", question{root: oneRoot(most, half), h: list(least), r: 1}},
		{"UpdateRoot", "s e", question{root: oneRoot(0, least), h: list(half), r: 1, z: most}},
		{"UpdateRoot", "c Z + s e", question{root: oneRoot(most, 3), h: list(4), r: 1, z: most}},
		{"UpdateRoot", "c e", question{root: oneRoot(0, half), h: list(least), r: 1, z: most}},
		{"UpdateRoot", "s Z", question{root: oneRoot(most, least), h: list(half), r: 1}},
		{"UpdateRoot", "c e - s Z", question{root: oneRoot(-most, 3), h: list(4), r: 1, z: most}},
		{"UpdateRoot", "c e - s Z", question{root: rootOf(list(0, -most), 1, 0, 0, 3), h: list(0, 4), r: 1, z: most}},
	}
	for _, c := range cases {
		call := callOf(c.call)
		words := call.said(c.q)
		if words.step != c.step || words.err != api.ErrOver {
			t.Errorf("%s of %+v: %q goes over, not %q", c.call, c.q, words.step, c.step)
		}
		hold(t, told{c.call + ": " + c.step, call.ask(c.q), fault(api.ErrOver)})
		if c.call == "Update" {
			got := askRows(c.q.a, mat(1, len(c.q.h), c.q.h...), list(c.q.r), list(c.q.z))
			hold(t, told{"Rows: " + c.step, got, fault(api.ErrOver)})
		}
	}
	// A row that is nought keeps what goes over elsewhere from being met.
	hold(t, told{"nothing is done", askUpdate(thrice(), list(0, 0, 0), 1, most), answer{a: thrice()}}, told{"nothing is squared", askUpdateRoot(oneRoot(most, most), list(0), 1, most), isLeft(most, list(most), most)})
}

// P17.3, P17.4, P17.6: sums and squares that aren't positive, taken exactly; ErrOver ahead of that.
func TestTheExactLook(t *testing.T) {
	tip := information(list(1, 2), 1, 1, 1, 1+0x1p-52)
	h, great := list(0x1p27, 0x1p27), information(list(1, 2), 0x1p53, 0x1p53-1, 0x1p53-1, 0x1p53-1)
	hold(t,
		told{"a row", askUpdate(tip, h, 1, 1), fault(api.ErrInfo)},
		told{"a row of noughts", askUpdate(tip, list(0, minus), 1, 1), isInfo(list(1, 2), 1, 1, 1, 1+0x1p-52)},
		told{"V over ahead of it", askUpdate(tip, h, 1, most), fault(api.ErrOver)},
		told{"V over ahead of it, by its sum", askUpdate(information(list(1, most), tip.Y.At...), h, 1, 0x1p996), fault(api.ErrOver)},
		told{"a row of some", askRows(tip, mat(3, 2, 0, 0, 0x1p27, 0x1p27, 0, 0), filled(3, 1), filled(3, 1)), faultAt(1, api.ErrInfo)},
		told{"joined", askJoin(tip, great), fault(api.ErrInfo)},
		told{"joined, the other way", askJoin(great, tip), fault(api.ErrInfo)},
		told{"joined, V over ahead of it", askJoin(information(list(1, most), tip.Y.At...), information(list(1, most), great.Y.At...)), fault(api.ErrOver)},
		told{"of a root", askUnroot(rootOf(list(1, 2), 1, 1, 0, 0x1p-27)), fault(api.ErrInfo)},
		told{"of a root, V over ahead of it", askUnroot(rootOf(list(most, most), 1, 2, 0, 0x1p-27)), fault(api.ErrOver)},
		told{"of a root, rounded to below 0", askUnroot(rootOf(list(0, 0), 0x1.0000001p0, 1, 0, 0x1p-40)), fault(api.ErrInfo)},
		told{"of a root, just positive", askUnroot(rootOf(list(1, 2), 1, 1, 0, 0x1p-26)), isInfo(list(1, 1+0x1p-25), 1, 1, 1, 1+0x1p-52)},
		told{"a square falls to 0", askUnroot(oneRoot(1, 0x1p-538)), fault(api.ErrInfo)},
		told{"half of the least", askUnroot(oneRoot(0, 0x1.6a09e667f3bccp-538)), fault(api.ErrInfo)},
		told{"above half of the least", askUnroot(oneRoot(0, 0x1.6a09e667f3bcdp-538)), isInfo(list(0), least)},
	)
}

// P17.3: Rows without rows, with one, with more; each number of rows, each of them refused.
func TestSomeRows(t *testing.T) {
	a := information(list(1, 2), 4, 2, 2, 5)
	hold(t,
		told{"none", askRows(a, mat(0, 2), nil, nil), answer{a: a}},
		told{"none of none", askRows(api.Info{}, mat(0, 0), nil, nil), answer{}},
		told{"none of noughts", askRows(information(list(minus, 0), 1, minus, minus, 1), mat(0, 2), nil, nil), isInfo(list(minus, 0), 1, minus, minus, 1)},
	)
	for n := 1; n <= 12; n++ {
		h, r, z := mat(n, 2), filled(n, 2), filled(n, 3)
		want := answer{a: a}
		for i := range n {
			h.At = append(h.At, 1, float64(i%3)-1)
			want = askUpdate(want.a, rowOf(h, i), 2, 3)
		}
		hold(t, told{"all", askRows(a, h, r, z), want})
		for i := range n {
			hold(t,
				told{"a variance", askRows(a, h, with(r, i, 0), z), faultAt(i, api.ErrVariance)},
				told{"a variance that isn't finite", askRows(a, h, with(r, i, inf), z), faultAt(i, api.ErrNumber)},
				told{"a value", askRows(a, h, r, with(z, i, nan)), faultAt(i, api.ErrNumber)},
				told{"over", askRows(a, h, with(r, i, least), z), faultAt(i, api.ErrOver)},
				told{"the first of two", askRows(a, h, with(r, i, -1), with(z, n-1, nan)), faultAt(i, api.ErrVariance)},
			)
			if i < n-1 {
				hold(t, told{"the first of two, the other way", askRows(a, h, with(r, n-1, -1), with(z, i, nan)), faultAt(i, api.ErrNumber)})
			}
		}
	}
}

// P17.3: rows that don't go together: place 0, whatever row it is.
func TestRowsThatDontGoTogether(t *testing.T) {
	a, h := two(), mat(3, 2, 1, 0, 0, 1, 1, 1)
	right := filled(3, 1)
	for n := range 14 {
		if n != 3 {
			hold(t,
				told{"r", askRows(a, h, filled(n, 1), right), fault(api.ErrShape)},
				told{"z", askRows(a, h, right, filled(n, 1)), fault(api.ErrShape)},
				told{"both", askRows(a, h, filled(n, -1), filled(n, nan)), fault(api.ErrShape)},
				told{"without rows", askRows(a, mat(0, 2), filled(n+1, 1), nil), fault(api.ErrShape)},
				told{"without rows, values", askRows(a, mat(0, 2), nil, filled(n+1, 1)), fault(api.ErrShape)},
			)
		}
		if n != 2 && n < 13 {
			hold(t, told{"columns", askRows(a, mat(3, n, filled(3*n, 1)...), right, right), fault(api.ErrShape)}, told{"no rows of columns", askRows(a, mat(0, n), nil, nil), fault(api.ErrShape)})
		}
	}
	for _, m := range []api.Mat{mat(-1, 2), mat(13, 2, filled(26, 1)...), mat(3, 13), mat(3, math.MinInt), mat(math.MaxInt, 2)} {
		hold(t, told{"a range", askRows(a, m, right, right), fault(api.ErrRange)}, told{"a range, all wrong", askRows(a, m, list(nan), nil), fault(api.ErrRange)})
	}
	for _, m := range []api.Mat{mat(3, 2, 1, 0, 0, 1, 1), mat(3, 2, filled(7, 1)...), mat(3, 2)} {
		hold(t, told{"a shape", askRows(a, m, right, right), fault(api.ErrShape)})
	}
	for i := range 6 {
		for _, u := range unfit() {
			bad := mat(3, 2, with(h.At, i, u)...)
			hold(t,
				told{"a number of any row", askRows(a, bad, right, right), fault(api.ErrNumber)},
				told{"a number ahead of the variance", askRows(a, bad, list(-1, 1, 1), right), fault(api.ErrNumber)},
				told{"a number ahead of the shapes", askRows(a, bad, nil, nil), fault(api.ErrNumber)},
				told{"a number ahead of the columns", askRows(one(1, 1), bad, right, right), fault(api.ErrNumber)},
			)
		}
	}
}

// P17.4: informations of unlike size; sums, number by number.
func TestJoins(t *testing.T) {
	for n := range 13 {
		for k := range 13 {
			a, b := api.Info{Y: unit(n), V: filled(n, 1)}, api.Info{Y: unit(k), V: filled(k, most)}
			want := fault(api.ErrShape)
			if n == k {
				want = answer{a: api.Info{Y: diagonal(filled(n, 2)...), V: filled(n, most)}}
			}
			hold(t, told{"sizes", askJoin(a, b), want})
		}
	}
	hold(t,
		told{"two", askJoin(information(list(1, -2), 2, 1, 1, 2), information(list(0.5, 7), 3, -1, -1, 1)), isInfo(list(1.5, 5), 5, 0, 0, 3)},
		told{"noughts", askJoin(information(list(minus, minus), 1, minus, minus, 1), information(list(minus, 0), 1, minus, minus, 1)), isInfo(list(minus, 0), 2, minus, minus, 2)},
		told{"unlike noughts", askJoin(information(list(0, 1), 1, minus, minus, 1), information(list(minus, -1), 1, 0, 0, 1)), isInfo(list(0, 0), 2, 0, 0, 2)},
		told{"the greatest", askJoin(one(most, 0x1p1023), one(-most, 0x1.ffffffffffffep1022)), isInfo(list(0), most)},
		told{"the greatest and half of its last bit", askJoin(one(0, most), one(0, 0x1p970)), fault(api.ErrOver)},
		told{"the greatest and less", askJoin(one(0, most), one(0, 0x1.fffffffffffffp969)), isInfo(list(0), most)},
		told{"the least", askJoin(one(least, least), one(-least, least)), isInfo(list(0), 2*least)},
	)
}

// P17.5: transitions and noise that kalman.Predict refuses, behind State's errors and ahead of Of's.
func TestPredicted(t *testing.T) {
	cases := map[api.Errno][]api.Mat{
		api.ErrRange:  {mat(-1, 2), mat(2, 13, 1, 1), mat(13, 2), mat(math.MaxInt, 2), mat(2, math.MinInt)},
		api.ErrShape:  {mat(2, 2, 1, 0, 0), mat(2, 2, 1, 0, 0, 1, 1), mat(2, 2), mat(1, 2, 1, 1), mat(2, 1, 1, 1), mat(3, 2, 1, 0, 0, 1, 0, 0), unit(1), unit(3), mat(0, 0), mat(0, 2), unit(12)},
		api.ErrNumber: {},
	}
	for _, u := range unfit() {
		cases[api.ErrNumber] = append(cases[api.ErrNumber], square(u, 0, 0, 1), square(1, u, 0, 1), square(1, 0, u, 1), square(1, 0, 0, u), mat(1, 1, u), mat(1, 2, 1, u))
	}
	first := []told{
		{"no triangle", answer{a: api.Info{Y: tight(), V: list(1, 2)}}, fault(api.ErrPositive)},
		{"an inverse over", answer{a: information(list(0, 0), 1, 0, 0, least)}, fault(api.ErrOver)},
		{"an inverse that isn't positive", answer{a: api.Info{Y: unsteady(), V: list(1, 2)}}, fault(api.ErrCovPos)},
		{"means over", answer{a: information(list(most, 0), 0.25, 0, 0, 0.25)}, fault(api.ErrOver)},
	}
	for err, l := range cases {
		for _, m := range l {
			hold(t, told{"f", askPredict(two(), m, unit(2)), fault(err)}, told{"q", askPredict(two(), unit(2), m), fault(err)}, told{"both", askPredict(two(), m, m), fault(err)})
			for _, c := range first {
				hold(t, told{c.what, askPredict(c.got.a, m, unit(2)), c.want}, told{c.what, askPredict(c.got.a, unit(2), m), c.want})
			}
		}
	}
	hold(t,
		told{"q not symmetric", askPredict(two(), unit(2), square(1, 0, minus, 1)), fault(api.ErrCovSym)},
		told{"q not symmetric, f over", askPredict(two(), square(most, most, most, most), square(1, 0, minus, 1)), fault(api.ErrCovSym)},
		told{"not positive", askPredict(two(), noughts(2), noughts(2)), fault(api.ErrCovPos)},
		told{"over", askPredict(two(), square(most, 0, 0, 1), noughts(2)), fault(api.ErrOver)},
		told{"no triangle behind it", askPredict(two(), noughts(2), tight()), fault(api.ErrPositive)},
		told{"an inverse over behind it", askPredict(two(), noughts(2), square(1, 0, 0, least)), fault(api.ErrOver)},
		told{"an inverse that isn't positive behind it", askPredict(two(), noughts(2), unsteady()), fault(api.ErrInfo)},
		told{"V over behind it", askPredict(information(list(most, 0), 1, 0, 0, 1), unit(2), square(-0.75, 0, 0, 0)), fault(api.ErrOver)},
		told{"moved", askPredict(two(), square(1, 1, 0, 1), square(0, 0, 0, 1)), reckoned(func() answer {
			s, err := kalman.Predict(state(list(1, 2), 1, 0, 0, 1), square(1, 1, 0, 1), square(0, 0, 0, 1))
			allow("", err)
			return answer{a: wordsOfOf(s)}
		})},
	)
}

// P17.6: informations that chol refuses, and what goes over; what stands below the diagonal is +0.
func TestRootsOf(t *testing.T) {
	hold(t,
		told{"no triangle", askRootOf(api.Info{Y: tight(), V: list(1, 2)}), fault(api.ErrPositive)},
		told{"no triangle ahead of Z over", askRootOf(api.Info{Y: tight(), V: list(most, most)}), fault(api.ErrPositive)},
		told{"a triangle over", askRootOf(api.Info{Y: far(), V: filled(4, 1)}), fault(api.ErrOver)},
		told{"two", askRootOf(information(list(8, 9), 4, 2, 2, 5)), isRoot(list(4, 2.5), 2, 1, 0, 2)},
		told{"noughts", askRootOf(information(list(minus, 0), 4, minus, minus, 9)), isRoot(list(minus, 0), 2, minus, 0, 3)},
		told{"just positive", askRootOf(information(list(1, 2), 1, 1, 1, 1+0x1p-52)), isRoot(list(1, 0x1p26), 1, 1, 0, 0x1p-26)},
		told{"the greatest", askRootOf(one(0, most)), isRoot(list(0), math.Sqrt(most))},
		told{"the least", askRootOf(one(0, least)), isRoot(list(0), 0x1p-537)},
	)
}

// P17.6: roots and what they stand for; in order.
func TestOfRoots(t *testing.T) {
	ones := unit(4)
	for i := range 3 {
		ones.At[4*i+3] = 1
	}
	squared := unit(4)
	for i := range 3 {
		squared.At[4*i+3], squared.At[12+i] = 1, 1
	}
	squared.At[15] = 4
	hold(t,
		told{"two", askUnroot(rootOf(list(4, 2.5), 2, 1, 0, 2)), isInfo(list(8, 9), 4, 2, 2, 5)},
		told{"in order", askUnroot(api.RootInfo{R: ones, Z: list(0x1p54, 1, 1, 1)}), answer{a: api.Info{Y: squared, V: list(0x1p54, 1, 1, 0x1p54)}}},
		told{"noughts", askUnroot(rootOf(list(minus, minus), 2, minus, 0, 3)), isInfo(list(0, 0), 4, 0, 0, 9)},
		told{"behind the diagonal is nothing", askUnroot(rootOf(list(minus, -most), 2, 0, 0, 0.5)), isInfo(list(0, -most/2), 4, 0, 0, 0.25)},
		told{"means", askMeans(rootOf(list(4, 2.5), 2, 1, 0, 2)), answer{x: list(1.375, 1.25)}},
		told{"means of noughts", askMeans(rootOf(list(minus, 0), 2, minus, 0, 3)), answer{x: list(0, 0)}},
		told{"means, the greatest", askMeans(oneRoot(most, 1)), answer{x: list(most)}},
		told{"means, the least", askMeans(oneRoot(least, 2)), answer{x: list(0)}},
	)
}

// rootByWords is what the words say of a root with one row more.
func rootByWords(a api.RootInfo, h []float64, r, z float64) answer {
	return callOf("UpdateRoot").said(question{root: a, h: h, r: r, z: z})
}

// P17.7: a g that isn't above 0; where w is 0 nothing is done; what is met first is told.
func TestRotations(t *testing.T) {
	tiny, under, above := 0x1p-540, 0x1.6a09e667f3bccp-538, 0x1.6a09e667f3bcdp-538
	s := rootOf(list(3, 7), tiny, 5, 0, 3)
	z, left := turnedBy(0.6, 0.8, 7, 13)
	diagonal := math.Sqrt2
	beside, _ := turnedBy(1/diagonal, 1/diagonal, 3, 3)
	hold(t,
		told{"squares too small", askUpdateRoot(oneRoot(1, tiny), list(tiny), 1, 1), fault(api.ErrUpperTri)},
		told{"of both signs", askUpdateRoot(oneRoot(1, tiny), list(-tiny), 1, 1), fault(api.ErrUpperTri)},
		told{"half of the least", askUpdateRoot(oneRoot(1, under), list(under), 1, 1), fault(api.ErrUpperTri)},
		told{"above half of the least", askUpdateRoot(oneRoot(0, above), list(tiny), 1, 0), isLeft(0, list(0), 0x1p-537)},
		told{"above half of the least, the row's", askUpdateRoot(oneRoot(0, tiny), list(-above), 1, 0), isLeft(0, list(0), 0x1p-537)},
		told{"the first of two", askUpdateRoot(s, list(tiny, 0), 1, 1), fault(api.ErrUpperTri)},
		told{"the last of two", askUpdateRoot(rootOf(list(1, 1), 1, 0, 0, tiny), list(0, tiny), 1, 1), fault(api.ErrUpperTri)},
		told{"divided first", askUpdateRoot(oneRoot(1, tiny), list(tiny), 0x1p-100, 1), isLeft(0, list(0x1p50), 0x1p-490)},
		told{"the first is 0", askUpdateRoot(s, list(0, 4), 1, 13), isLeft(left, list(3, z), tiny, 5, 0, 5)},
		told{"the first is -0", askUpdateRoot(s, list(minus, 4), 1, 13), isLeft(left, list(3, z), tiny, 5, 0, 5)},
		told{"the first falls to 0", askUpdateRoot(s, list(least, 8), 4, 26), isLeft(left, list(3, z), tiny, 5, 0, 5)},
		told{"all are 0", askUpdateRoot(s, list(minus, 0), 4, 13), isLeft(6.5, s.Z, s.R.At...)},
		told{"a value of -0", askUpdateRoot(s, list(minus, 0), 4, minus), isLeft(minus, s.Z, s.R.At...)},
		told{"the last comes out 0", askUpdateRoot(rootOf(list(0, 0), 1, 3, 0, tiny), list(1, 3), 1, 0), isLeft(0, list(0, 0), diagonal, beside, 0, tiny)},
		told{"w over ahead of it", askUpdateRoot(rootOf(list(0, 0), tiny, 0, 0, 1), list(0x1p-700, 0x1p1000), 0x1p-200, 1), fault(api.ErrOver)},
		told{"e over ahead of it", askUpdateRoot(oneRoot(0, tiny), list(0x1p-700), 0x1p-200, most), fault(api.ErrOver)},
		told{"the row above over ahead of it", askUpdateRoot(rootOf(list(most, 0), 3, 0, 0, tiny), list(4, tiny), 1, most), fault(api.ErrOver)},
		told{"ahead of the row below over", askUpdateRoot(rootOf(list(0, most), tiny, 0, 0, 3), list(tiny, 4), 1, most), fault(api.ErrUpperTri)},
		told{"ahead of its own row over", askUpdateRoot(rootOf(list(most, 0), tiny, most, 0, 1), list(tiny, most), 1, most), fault(api.ErrUpperTri)},
		told{"a value ahead of it", askUpdateRoot(oneRoot(1, tiny), list(tiny), 1, nan), fault(api.ErrNumber)},
	)
}

// P17.3, P17.7: signs of noughts are what the steps give; a -0 above the diagonal may be, and may come.
func TestSignsOfNoughts(t *testing.T) {
	a := information(list(minus, minus), 1, minus, minus, 1)
	root := rootOf(list(minus, minus), 1, minus, 0, 1)
	hold(t,
		told{"a row of noughts", askUpdate(a, list(0, 0), 1, 0), isInfo(list(0, 0), 1, 0, 0, 1)},
		told{"of unlike noughts", askUpdate(a, list(0, minus), 1, 0), isInfo(list(0, minus), 1, minus, minus, 1)},
		told{"a value below 0", askUpdate(a, list(0, minus), 1, -1), isInfo(list(minus, 0), 1, minus, minus, 1)},
		told{"a row", askUpdate(a, list(1, 0), 1, minus), isInfo(list(minus, minus), 2, 0, 0, 1)},
		told{"a root stays", askUpdateRoot(root, list(0, minus), 1, minus), isLeft(minus, list(minus, minus), 1, minus, 0, 1)},
		told{"a root's first", askUpdateRoot(rootOf(list(minus, minus), 3, minus, 0, 1), list(4, minus), 1, minus), isLeft(0, list(minus, minus), 5, minus, 0, 1)},
		told{"a root's last", askUpdateRoot(rootOf(list(minus, minus), 1, minus, 0, 3), list(minus, -4), 1, minus), isLeft(minus, list(minus, 0), 1, minus, 0, 5)},
	)
}
