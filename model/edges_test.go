package model_test

import (
	"math"
	"slices"
	"testing"

	"binnacle/api"
	"binnacle/model"
)

// told is a case: what was answered, and what should have been.
type told struct {
	what      string
	got, want answer
}

func hold(t *testing.T, cases ...told) {
	t.Helper()
	for _, c := range cases {
		if !c.got.is(c.want) {
			t.Errorf("%s: %+v, not %+v", c.what, c.got, c.want)
		}
	}
}

func is(n int) answer { return answer{n: n} }

func isNumber(x float64) answer { return answer{x: x} }

func isNames(l ...string) answer { return answer{names: l} }

func isList(l ...float64) answer { return answer{l: l} }

// isSquare is a square matrix of so many rows.
func isSquare(rows int, at ...float64) answer { return answer{m: mat(rows, rows, at...)} }

func isMat(m api.Mat) answer { return answer{m: m} }

func askCheck(p ...api.Part) answer { return fault(model.Check(motion(p...))) }

func askDim(p ...api.Part) answer { return saysCount(model.Dim(motion(p...))) }

func askNames(p ...api.Part) answer { return saysNames(model.Names(motion(p...))) }

func askSeconds(ticks int64) answer { return saysNumber(model.Seconds(ticks)) }

func askF(m api.Motion, ticks int64) answer { return saysMat(model.F(m, ticks)) }

func askQ(m api.Motion, ticks int64) answer { return saysMat(model.Q(m, ticks)) }

func askG(m api.Motion, ticks int64) answer { return saysMat(model.G(m, ticks)) }

func askPlace(m api.Motion, part, axis, order int) answer {
	return saysCount(model.Place(m, part, axis, order))
}

func askPicks(m api.Motion, places ...int) answer { return saysMat(model.Picks(m, places)) }

func askSensor(s api.Sensor, dim int) answer { return fault(model.CheckSensor(s, dim)) }

func askSees(s api.Sensor, x ...float64) answer { return saysList(model.Sees(s, x)) }

// seeing is a sensor with these rows, all of variance 1.
func seeing(rows, cols int, at ...float64) api.Sensor {
	return api.Sensor{ID: 1, H: mat(rows, cols, at...), R: filled(max(0, rows), 1)}
}

// The roots of 3, 20 and 48, as they are rounded.
func roots() (of3, of20, of48 float64) {
	return 0x1.bb67ae8584caap0, 0x1.1e3779b97f4a8p2, 0x1.bb67ae8584caap2
}

// The chapter's examples, as they stand.
func TestExamples(t *testing.T) {
	speed, pull := alone(api.KindSpeed, 1, 3), alone(api.KindPull, 1, 0)
	two := motion(part(api.KindSpeed, 2, 0, 0), part(api.KindFade, 1, 0, 0))
	a := 0x1.3988e1409212ep1 // the root of 6
	r, _, _ := roots()
	hold(t,
		told{"1: F", askF(speed, 2000000), isSquare(2, 1, 2, 0, 1)},
		told{"1: Q", askQ(speed, 2000000), isSquare(2, 8, 6, 6, 6)},
		told{"1: G", askG(speed, 2000000), isSquare(2, a*2/r, 0, a*r/2, a/2)},
		told{"1: F of a pull", askF(pull, 1000000), isSquare(3, 1, 1, 0.5, 0, 1, 1, 0, 0, 1)},
		told{"2: Dim", askDim(two.Parts...), is(5)},
		told{"2: Names", askNames(two.Parts...), isNames("p0.0", "v0.0", "p0.1", "v0.1", "p1.0")},
		told{"2: Place", askPlace(two, 0, 1, 1), is(3)},
		told{"2: Place of a speed that isn't", askPlace(two, 1, 0, 1), fault(api.ErrRange)},
		told{"3: no parts", askCheck(), fault(api.ErrRange)},
		told{"3: kind 9", askCheck(part(9, 1, 0, 0)), fault(api.ErrKind)},
		told{"3: noise -1", askCheck(part(api.KindWalk, 1, -1, 0)), fault(api.ErrNoise)},
		told{"3: 15 numbers", askCheck(part(api.KindPull, 5, 0, 0)), fault(api.ErrLong)},
		told{"3: Seconds", askSeconds(1), isNumber(1e-06)},
	)
}

// P14.1: no part, kinds, axes.
func TestKindsAndAxes(t *testing.T) {
	hold(t, told{"nil", saysCount(model.Dim(api.Motion{})), fault(api.ErrRange)}, told{"empty", saysCount(model.Dim(api.Motion{Parts: []api.Part{}})), fault(api.ErrRange)})
	for _, kind := range []int{-1, 5, 6, 9, -2, 256, 1 << 16, math.MaxInt, math.MinInt} {
		hold(t, told{"a kind", askCheck(part(kind, 1, 0, 0)), fault(api.ErrKind)})
	}
	for _, kind := range anyKinds() {
		for _, axes := range []int{0, -1, 13, 14, math.MaxInt, math.MinInt} {
			hold(t, told{"axes", askCheck(part(kind, axes, 1, 1)), fault(api.ErrRange)})
		}
		for axes := 1; axes <= 12; axes++ {
			want := is(axes * orders(kind))
			if want.n > 12 {
				want = fault(api.ErrLong)
			}
			hold(t, told{"Dim", askDim(part(kind, axes, 1, 1)), want}, told{"Check", askCheck(part(kind, axes, 1, 1)), fault(want.err)})
		}
	}
}

// P14.1: noises and fadings, of every kind, whether the kind has a use for them or not.
func TestNoises(t *testing.T) {
	for _, kind := range anyKinds() {
		for _, c := range []struct {
			x   float64
			err api.Errno
		}{
			{0, api.OK}, {minus, api.OK}, {least, api.OK}, {1, api.OK}, {0x1.fffffffffffffp99, api.OK}, {0x1p100, api.OK},
			{tooNoisy, api.ErrNoise}, {0x1p101, api.ErrNoise}, {most, api.ErrNoise}, {-least, api.ErrNoise}, {-1, api.ErrNoise}, {-0x1p100, api.ErrNoise}, {-most, api.ErrNoise},
			{inf, api.ErrNumber}, {-inf, api.ErrNumber}, {nan, api.ErrNumber}, {-nan, api.ErrNumber},
		} {
			hold(t,
				told{"a noise", askCheck(part(kind, 1, c.x, 1)), fault(c.err)},
				told{"a fading", askCheck(part(kind, 1, 1, c.x)), fault(c.err)},
				told{"both", askCheck(part(kind, 1, c.x, c.x)), fault(c.err)},
				told{"of a second part", askCheck(part(kind, 1, 1, 1), part(kind, 1, c.x, 1)), fault(c.err)},
			)
		}
	}
}

// P14.1: just MaxDim numbers, and one more, over parts of all kinds.
func TestJustMaxDim(t *testing.T) {
	still, walk, speed, pull, fade := part(0, 1, 0, 0), part(1, 1, 0, 0), part(2, 1, 0, 0), part(3, 1, 0, 0), part(4, 1, 0, 0)
	full := []api.Part{pull, speed, pull, walk, fade, speed}
	hold(t,
		told{"12", askDim(full...), is(12)},
		told{"9", askDim(full[1:]...), is(9)},
		told{"6 and 6", askDim(part(2, 3, 0, 0), part(3, 2, 0, 0)), is(12)},
		told{"7 and 6", askDim(part(0, 1, 0, 0), part(2, 3, 0, 0), part(3, 2, 0, 0)), fault(api.ErrLong)},
		told{"14", askDim(part(2, 7, 0, 0)), fault(api.ErrLong)},
		told{"36", askDim(part(3, 12, 0, 0)), fault(api.ErrLong)},
	)
	for _, more := range []api.Part{still, walk, speed, pull, fade} {
		hold(t,
			told{"one more behind", askDim(append(slices.Clone(full), more)...), fault(api.ErrLong)},
			told{"one more ahead", askDim(append([]api.Part{more}, full...)...), fault(api.ErrLong)},
			told{"beside 12 axes", askCheck(part(more.Kind, 12, 0, 0), still), fault(api.ErrLong)},
		)
	}
}

// P14.1: many parts; what is wrong with one of them comes ahead of their being too many.
func TestManyParts(t *testing.T) {
	for _, n := range []int{1, 11, 12, 13, 14, 1000, 200000} {
		l := slices.Repeat([]api.Part{part(api.KindWalk, 1, 1, 0)}, n)
		want := is(n)
		if n > 12 {
			want = fault(api.ErrLong)
		}
		hold(t, told{"so many", askDim(l...), want}, told{"so many", askCheck(l...), fault(want.err)})
		l[n-1].Axes = 0
		hold(t, told{"axes of the last", askDim(l...), fault(api.ErrRange)})
		l[n-1] = part(5, 1, 0, 0)
		hold(t, told{"the last kind", askDim(l...), fault(api.ErrKind)})
		l[n-1] = part(1, 1, nan, 0)
		hold(t, told{"the last noise", askDim(l...), fault(api.ErrNumber)})
		l[n-1] = part(1, 1, 0, -1)
		hold(t, told{"the last fading", askDim(l...), fault(api.ErrNoise)})
	}
}

// P14.1: names with two digits, of each kind and order.
func TestNamesEdges(t *testing.T) {
	walk := part(api.KindWalk, 1, 0, 0)
	hold(t,
		told{"12 parts", askNames(slices.Repeat([]api.Part{walk}, 12)...), isNames("p0.0", "p1.0", "p2.0", "p3.0", "p4.0", "p5.0", "p6.0", "p7.0", "p8.0", "p9.0", "p10.0", "p11.0")},
		told{"12 axes", askNames(part(api.KindStill, 12, 0, 0)), isNames("p0.0", "p0.1", "p0.2", "p0.3", "p0.4", "p0.5", "p0.6", "p0.7", "p0.8", "p0.9", "p0.10", "p0.11")},
		told{"kinds", askNames(part(api.KindFade, 1, 0, 0), part(api.KindPull, 2, 0, 0), part(api.KindStill, 1, 0, 0), part(api.KindSpeed, 1, 0, 0), walk),
			isNames("p0.0", "p1.0", "v1.0", "a1.0", "p1.1", "v1.1", "a1.1", "p2.0", "p3.0", "v3.0", "p4.0")},
		told{"none", askNames(), fault(api.ErrRange)},
		told{"too many", askNames(part(api.KindPull, 5, 0, 0)), fault(api.ErrLong)},
	)
}

// P14.1: parts, axes and orders of -1, of 0, of the last, and of one too many.
func TestPlaceEdges(t *testing.T) {
	m := motion(part(api.KindWalk, 2, 0, 0), part(api.KindPull, 2, 0, 0), part(api.KindSpeed, 1, 0, 0), part(api.KindStill, 1, 0, 0), part(api.KindFade, 1, 0, 0))
	no := fault(api.ErrRange)
	hold(t,
		told{"the first", askPlace(m, 0, 0, 0), is(0)},
		told{"a walk's second axis", askPlace(m, 0, 1, 0), is(1)},
		told{"a pull's place", askPlace(m, 1, 0, 0), is(2)},
		told{"a pull's speed", askPlace(m, 1, 0, 1), is(3)},
		told{"a pull", askPlace(m, 1, 0, 2), is(4)},
		told{"a second axis' pull", askPlace(m, 1, 1, 2), is(7)},
		told{"a place", askPlace(m, 2, 0, 0), is(8)},
		told{"its speed", askPlace(m, 2, 0, 1), is(9)},
		told{"still", askPlace(m, 3, 0, 0), is(10)},
		told{"the last", askPlace(m, 4, 0, 0), is(11)},
		told{"part -1", askPlace(m, -1, 0, 0), no},
		told{"one part too many", askPlace(m, 5, 0, 0), no},
		told{"a part far off", askPlace(m, math.MaxInt, 0, 0), no},
		told{"a part far below", askPlace(m, math.MinInt, 0, 0), no},
		told{"axis -1", askPlace(m, 1, -1, 0), no},
		told{"one axis too many", askPlace(m, 0, 2, 0), no},
		told{"one axis too many of a pull", askPlace(m, 1, 2, 0), no},
		told{"an axis far off", askPlace(m, 1, math.MaxInt, 0), no},
		told{"order -1", askPlace(m, 1, 1, -1), no},
		told{"order -1 of the first", askPlace(m, 0, 0, -1), no},
		told{"one order too many", askPlace(m, 1, 0, 3), no},
		told{"one order too many of a speed", askPlace(m, 2, 0, 2), no},
		told{"one order too many of a walk", askPlace(m, 0, 0, 1), no},
		told{"one order too many of one that is still", askPlace(m, 3, 0, 1), no},
		told{"one order too many of the last", askPlace(m, 4, 0, 1), no},
		told{"an order far off", askPlace(m, 1, 0, math.MaxInt), no},
		told{"an order far below", askPlace(m, 1, 0, math.MinInt), no},
		told{"no parts", askPlace(api.Motion{}, 0, 0, 0), no},
		told{"Check's error", askPlace(motion(part(9, 1, 0, 0)), 0, 0, 0), fault(api.ErrKind)},
		told{"Check's error, and no such part", askPlace(alone(api.KindWalk, 1, nan), -1, -1, -1), fault(api.ErrNumber)},
		told{"Check's error, and no such axis", askPlace(alone(api.KindPull, 5, 1), 0, 7, 0), fault(api.ErrLong)},
	)
}

// P14.2: both ends, and what lies beyond.
func TestSecondsEdges(t *testing.T) {
	no := fault(api.ErrRange)
	hold(t,
		told{"0", askSeconds(0), isNumber(0)},
		told{"1", askSeconds(1), isNumber(0x1.0c6f7a0b5ed8dp-20)},
		told{"3", askSeconds(3), isNumber(3e-06)},
		told{"-1", askSeconds(-1), isNumber(-1e-06)},
		told{"a second", askSeconds(1000000), isNumber(1)},
		told{"back", askSeconds(-2500000), isNumber(-2.5)},
		told{"the last", askSeconds(end), isNumber(1125899906.842624)},
		told{"the one ahead of it", askSeconds(end - 1), isNumber(1125899906.842623)},
		told{"the first", askSeconds(-end), isNumber(-1125899906.842624)},
		told{"one beyond", askSeconds(end + 1), no},
		told{"one before", askSeconds(-end - 1), no},
		told{"far beyond", askSeconds(math.MaxInt64), no},
		told{"far before", askSeconds(math.MinInt64), no},
	)
}

// P14.3 to P14.5: ticks, of which only those from 0 on may be, behind what is wrong with the motion.
func TestTicks(t *testing.T) {
	for _, c := range calls()[4:7] {
		for _, kind := range anyKinds() {
			m := motion(part(kind, 1, 2, 3))
			for _, ticks := range []int64{0, 1, second, end - 1, end} {
				if got := c.ask(question{m: m, ticks: ticks}); got.err != api.OK || got.m.Rows != orders(kind) {
					t.Errorf("%s of %+v, %d: %+v", c.name, m, ticks, got)
				}
			}
			for _, ticks := range []int64{-1, -2, -second, -end, -end - 1, end + 1, math.MaxInt64, math.MinInt64} {
				bad := motion(part(kind, 1, -2, 3))
				long := motion(part(kind, 12, 2, 3), part(kind, 1, 2, 3))
				hold(t,
					told{c.name, c.ask(question{m: m, ticks: ticks}), fault(api.ErrRange)},
					told{c.name, c.ask(question{m: bad, ticks: ticks}), fault(api.ErrNoise)},
					told{c.name, c.ask(question{m: long, ticks: ticks}), fault(api.ErrLong)},
				)
			}
		}
	}
}

// P14.3: each kind's block; Noise is nothing to it.
func TestBlocksOfF(t *testing.T) {
	fading := func(fade float64) api.Motion { return motion(part(api.KindFade, 1, 7, fade)) }
	last, tick := 1125899906.842624, 1e-06
	hold(t,
		told{"still", askF(motion(part(api.KindStill, 1, 7, 9)), 5), isSquare(1, 1)},
		told{"a walk", askF(motion(part(api.KindWalk, 1, 7, 9)), 5), isSquare(1, 1)},
		told{"a speed", askF(motion(part(api.KindSpeed, 1, 7, 9)), 2500000), isSquare(2, 1, 2.5, 0, 1)},
		told{"a pull", askF(motion(part(api.KindPull, 1, 7, 9)), 3000000), isSquare(3, 1, 3, 4.5, 0, 1, 3, 0, 0, 1)},
		told{"a pull at the end", askF(alone(api.KindPull, 1, 0), end), isSquare(3, 1, last, last*last/2, 0, 1, last, 0, 0, 1)},
		told{"a fading", askF(fading(3), 1000000), isSquare(1, 0.25)},
		told{"two seconds' fading", askF(fading(3), 2000000), isSquare(1, 1.0/7)},
		told{"none", askF(fading(0), end), isSquare(1, 1)},
		told{"none, with a minus", askF(fading(minus), end), isSquare(1, 1)},
		told{"hardly any", askF(fading(least), end), isSquare(1, 1)},
		told{"the fastest", askF(fading(0x1p100), 1000000), isSquare(1, 0x1p-100)},
		told{"not fused", askF(fading(0x1.8p0), 1), isSquare(1, 1/(1+float64(1.5*tick)))},
	)
}

// P14.4: each kind's block; Fade is nothing to it.
func TestBlocksOfQ(t *testing.T) {
	hold(t,
		told{"still", askQ(motion(part(api.KindStill, 1, 7, 9)), 5000000), isSquare(1, 0)},
		told{"still, with a minus", askQ(alone(api.KindStill, 1, minus), 5000000), isSquare(1, 0)},
		told{"a walk", askQ(motion(part(api.KindWalk, 1, 7, 9)), 2000000), isSquare(1, 14)},
		told{"a fading", askQ(motion(part(api.KindFade, 1, 7, 9)), 3000000), isSquare(1, 21)},
		told{"a speed", askQ(motion(part(api.KindSpeed, 1, 3, 9)), 1000000), isSquare(2, 1, 1.5, 1.5, 3)},
		told{"a pull", askQ(motion(part(api.KindPull, 1, 120, 9)), 1000000), isSquare(3, 6, 15, 20, 15, 40, 60, 20, 60, 120)},
		told{"two seconds' pull", askQ(alone(api.KindPull, 1, 60), 2000000), isSquare(3, 96, 120, 80, 120, 160, 120, 80, 120, 120)},
		told{"no noise", askQ(alone(api.KindPull, 1, 0), 2000000), isSquare(3, filled(9, 0)...)},
		told{"none, with a minus", askQ(alone(api.KindSpeed, 1, minus), 2000000), isSquare(2, filled(4, minus)...)},
		told{"the most", askQ(alone(api.KindWalk, 1, 0x1p100), 1000000), isSquare(1, 0x1p100)},
		told{"the least", askQ(alone(api.KindSpeed, 1, least), 1000000), isSquare(2, 0, 0, 0, least)},
		told{"two of the least", askQ(alone(api.KindSpeed, 1, 2*least), 1000000), isSquare(2, least, least, least, 2*least)},
	)
}

// P14.5: each kind's block; Fade is nothing to it.
func TestBlocksOfG(t *testing.T) {
	r3, r20, r48 := roots()
	hold(t,
		told{"still", askG(motion(part(api.KindStill, 1, 7, 9)), 5000000), isSquare(1, 0)},
		told{"still, with a minus", askG(alone(api.KindStill, 1, minus), 5000000), isSquare(1, 0)},
		told{"a walk", askG(motion(part(api.KindWalk, 1, 8, 9)), 2000000), isSquare(1, 4)},
		told{"a fading", askG(motion(part(api.KindFade, 1, 3, 9)), 3000000), isSquare(1, 3)},
		told{"a speed", askG(motion(part(api.KindSpeed, 1, 9, 9)), 1000000), isSquare(2, 3/r3, 0, 3*r3/2, 1.5)},
		told{"four seconds' speed", askG(alone(api.KindSpeed, 1, 1), 4000000), isSquare(2, 8/r3, 0, 2*r3/2, 1)},
		told{"a pull", askG(motion(part(api.KindPull, 1, 9, 9)), 1000000), isSquare(3, 3/r20, 0, 0, 3*r20/8, 3/r48, 0, 3*r20/6, 3*r48/12, 1)},
		told{"four seconds' pull", askG(alone(api.KindPull, 1, 9), 4000000), isSquare(3, 96/r20, 0, 0, 24*r20/8, 24/r48, 0, 6*r20/6, 6*r48/12, 2)},
		told{"no noise", askG(alone(api.KindPull, 1, 0), 2000000), isSquare(3, filled(9, 0)...)},
		told{"none, with a minus", askG(alone(api.KindSpeed, 1, minus), 2000000), isSquare(2, minus, 0, minus, minus)},
		told{"the most", askG(alone(api.KindWalk, 1, 0x1p100), 1000000), isSquare(1, 0x1p50)},
		told{"the least", askG(alone(api.KindFade, 1, least), 1000000), isSquare(1, 0x1p-537)},
	)
}

// onDiagonal is the matrix of so many rows with these blocks, one behind the other.
func onDiagonal(rows int, blocks ...[]float64) answer {
	out := filled(rows*rows, 0)
	first := 0
	for _, b := range blocks {
		size := map[int]int{1: 1, 4: 2, 9: 3}[len(b)]
		for k, x := range b {
			out[(first+k/size)*rows+first+k%size] = x
		}
		first += size
	}
	return isSquare(rows, out...)
}

// P14.3 to P14.5: kinds side by side, with several axes: each has its own block, and all else is +0.
func TestSideBySide(t *testing.T) {
	m := motion(part(api.KindSpeed, 2, 9, 0), part(api.KindFade, 2, 4, 3), part(api.KindPull, 1, 0, 0), part(api.KindStill, 1, 5, 0), part(api.KindWalk, 2, 0.25, 8))
	speed, speedQ := list(1, 1, 0, 1), list(3, 4.5, 4.5, 9)
	none := filled(9, 0)
	r3, _, _ := roots()
	root := list(3/r3, 0, 3*r3/2, 1.5)
	one := func(x float64) []float64 { return list(x) }
	hold(t,
		told{"F", askF(m, second), onDiagonal(12, speed, speed, one(0.25), one(0.25), list(1, 1, 0.5, 0, 1, 1, 0, 0, 1), one(1), one(1), one(1))},
		told{"Q", askQ(m, second), onDiagonal(12, speedQ, speedQ, one(4), one(4), none, one(0), one(0.25), one(0.25))},
		told{"G", askG(m, second), onDiagonal(12, root, root, one(2), one(2), none, one(0), one(0.5), one(0.5))},
		told{"12 axes", askQ(alone(api.KindWalk, 12, 2), second), onDiagonal(12, slices.Repeat([][]float64{one(2)}, 12)...)},
		told{"6 axes", askF(alone(api.KindSpeed, 6, 2), second), onDiagonal(12, slices.Repeat([][]float64{speed}, 6)...)},
		told{"4 axes", askQ(alone(api.KindPull, 4, 120), second), onDiagonal(12, slices.Repeat([][]float64{list(6, 15, 20, 15, 40, 60, 20, 60, 120)}, 4)...)},
		told{"a minus beside what is +0", askQ(motion(part(api.KindWalk, 1, minus, 0), part(api.KindStill, 1, minus, 0), part(api.KindWalk, 1, 1, 0)), second), isSquare(3, minus, 0, 0, 0, 0, 0, 0, 0, 1)},
	)
}

// P14.6: numbers of sensors, gates; a clock that may not be is nothing to it.
func TestSensorEdges(t *testing.T) {
	fine := fault(api.OK)
	for _, id := range []int{0, 1, 62, 63} {
		s := seeing(1, 1, 1)
		s.ID = id
		hold(t, told{"ID", askSensor(s, 1), fine})
	}
	for _, id := range []int{-1, -64, 64, 65, math.MaxInt, math.MinInt} {
		s := seeing(1, 1, 1)
		s.ID = id
		hold(t, told{"ID", askSensor(s, 1), fault(api.ErrRange)})
	}
	for _, c := range []struct {
		gate float64
		err  api.Errno
	}{{0, api.OK}, {minus, api.OK}, {least, api.OK}, {most, api.OK}, {-least, api.ErrNoise}, {-1, api.ErrNoise}, {-most, api.ErrNoise}, {inf, api.ErrNumber}, {-inf, api.ErrNumber}, {nan, api.ErrNumber}, {-nan, api.ErrNumber}} {
		s := seeing(2, 1, 1, 1)
		s.Gate = c.gate
		hold(t, told{"a gate", askSensor(s, 1), fault(c.err)})
	}
	s := seeing(1, 1, 1)
	s.Clock = api.Clock{Offset: math.MaxInt64, Num: -1, Den: 0}
	hold(t, told{"a clock", askSensor(s, 1), fine})
}

// P14.6: what is wrong with H; its rows and columns.
func TestRowsThatAreSeen(t *testing.T) {
	for _, c := range []struct {
		what string
		s    api.Sensor
		dim  int
		err  api.Errno
	}{
		{"rows below 0", seeing(-1, 1), 1, api.ErrRange},
		{"columns below 0", seeing(1, -1), -1, api.ErrRange},
		{"13 rows", seeing(13, 1, filled(13, 1)...), 1, api.ErrRange},
		{"13 columns", seeing(1, 13, filled(13, 1)...), 13, api.ErrRange},
		{"too few numbers", seeing(2, 2, 1, 1, 1), 2, api.ErrShape},
		{"too many numbers", seeing(2, 2, 1, 1, 1, 1, 1), 2, api.ErrShape},
		{"too few, and 7 rows", seeing(7, 2, 1, 1, 1), 2, api.ErrShape},
		{"no numbers", seeing(1, 1), 1, api.ErrShape},
		{"a NaN", seeing(1, 2, 1, nan), 2, api.ErrNumber},
		{"an infinity", seeing(1, 2, -inf, 1), 2, api.ErrNumber},
		{"an infinity in 7 rows", seeing(7, 1, append(filled(6, 1), inf)...), 1, api.ErrNumber},
		{"a NaN, and other columns", seeing(1, 2, 1, nan), 3, api.ErrNumber},
		{"no rows", seeing(0, 3), 3, api.ErrRange},
		{"no rows, other columns", seeing(0, 3), 2, api.ErrRange},
		{"no rows, no columns", seeing(0, 0), 0, api.ErrRange},
		{"one row", seeing(1, 3, 1, 2, 3), 3, api.OK},
		{"6 rows", seeing(6, 2, filled(12, 1)...), 2, api.OK},
		{"7 rows", seeing(7, 2, filled(14, 1)...), 2, api.ErrRange},
		{"7 rows, other columns", seeing(7, 2, filled(14, 1)...), 3, api.ErrRange},
		{"12 rows", seeing(12, 12, filled(144, 1)...), 12, api.ErrRange},
		{"12 columns", seeing(6, 12, filled(72, 1)...), 12, api.OK},
		{"no columns", seeing(2, 0), 0, api.OK},
		{"no columns for one", seeing(2, 0), 1, api.ErrShape},
		{"one column more", seeing(1, 3, 1, 2, 3), 2, api.ErrShape},
		{"one column less", seeing(1, 3, 1, 2, 3), 4, api.ErrShape},
		{"for none", seeing(1, 1, 1), 0, api.ErrShape},
		{"for fewer than none", seeing(1, 1, 1), -1, api.ErrShape},
		{"for ever so many", seeing(1, 1, 1), math.MaxInt, api.ErrShape},
		{"for 13", seeing(1, 12, filled(12, 1)...), 13, api.ErrShape},
	} {
		hold(t, told{c.what, askSensor(c.s, c.dim), fault(c.err)})
	}
}

// P14.6: variances: how many, and which, at each place.
func TestVariances(t *testing.T) {
	for rows := 1; rows <= 6; rows++ {
		s := seeing(rows, 2, filled(2*rows, 1)...)
		for n := range 9 {
			want := fault(api.OK)
			if n != rows {
				want = fault(api.ErrShape)
			}
			s.R = filled(n, 1)
			hold(t, told{"how many", askSensor(s, 2), want})
		}
		for place := range rows {
			for _, c := range []struct {
				x   float64
				err api.Errno
			}{
				{0x1p-200, api.OK}, {0x1.0000000000001p-200, api.OK}, {1, api.OK}, {0x1.fffffffffffffp199, api.OK}, {0x1p200, api.OK},
				{0x1.fffffffffffffp-201, api.ErrNoise}, {0x1.0000000000001p200, api.ErrNoise}, {0, api.ErrNoise}, {minus, api.ErrNoise}, {least, api.ErrNoise}, {-least, api.ErrNoise}, {-1, api.ErrNoise}, {-0x1p200, api.ErrNoise}, {most, api.ErrNoise}, {-most, api.ErrNoise},
				{inf, api.ErrNumber}, {-inf, api.ErrNumber}, {nan, api.ErrNumber}, {-nan, api.ErrNumber},
			} {
				s.R = filled(rows, 1)
				s.R[place] = c.x
				hold(t, told{"which", askSensor(s, 2), fault(c.err)})
			}
		}
	}
}

// P14.6: what is seen; dot products in order, what isn't finite of x, what goes over.
func TestSeesEdges(t *testing.T) {
	hold(t,
		told{"one row", askSees(seeing(1, 2, 1, 2), 3, 4), isList(11)},
		told{"three rows", askSees(seeing(3, 2, 1, 2, 0, 1, -1, 0), 3, 4), isList(11, 4, -3)},
		told{"nothing", askSees(seeing(2, 0)), isList(0, 0)},
		told{"noughts", askSees(seeing(2, 1, 1, -1), minus), isList(0, 0)},
		told{"in order", askSees(seeing(1, 3, 1, 1, 1), 1, 0x1p-60, -1), isList(0)},
		told{"in order, the other way", askSees(seeing(1, 3, 1, 1, 1), 1, -1, 0x1p-60), isList(0x1p-60)},
		told{"each product rounded", askSees(seeing(1, 2, 1+0x1p-30, -1), 1+0x1p-30, 1+0x1p-29), isList(0)},
		told{"the greatest", askSees(seeing(1, 2, 1, 0), most, most), isList(most)},
		told{"a product beyond", askSees(seeing(2, 1, 1, 2), most), fault(api.ErrOver)},
		told{"a sum beyond", askSees(seeing(1, 2, 1, 1), most, most), fault(api.ErrOver)},
		told{"a sum beyond, though not the end", askSees(seeing(1, 3, 1, 1, -1), most, most, most), fault(api.ErrOver)},
		told{"not beyond in its order", askSees(seeing(1, 3, 1, -1, 1), most, most, most), isList(most)},
		told{"infinities that would meet", askSees(seeing(1, 2, 2, -2), most, most), fault(api.ErrOver)},
		told{"other columns", askSees(seeing(1, 2, 1, 2), 3), fault(api.ErrShape)},
		told{"none", askSees(seeing(1, 2, 1, 2)), fault(api.ErrShape)},
		told{"13", askSees(seeing(1, 12, filled(12, 1)...), filled(13, 1)...), fault(api.ErrShape)},
		told{"13, one a NaN", askSees(seeing(1, 12, filled(12, 1)...), append(filled(12, 1), nan)...), fault(api.ErrShape)},
		told{"a sensor's error, and a NaN", askSees(seeing(7, 1, filled(7, 1)...), nan), fault(api.ErrRange)},
	)
	for place := range 12 {
		for _, x := range unfit() {
			l := filled(12, most)
			l[place] = x
			hold(t,
				told{"not finite", askSees(seeing(1, 12, filled(12, 0)...), l...), fault(api.ErrNumber)},
				told{"not finite, and over", askSees(seeing(1, 12, filled(12, 1)...), l...), fault(api.ErrNumber)},
			)
		}
	}
	s := seeing(1, 1, most)
	s.R[0] = 0
	hold(t, told{"no variance, and over", askSees(s, most), fault(api.ErrNoise)}, told{"no variance, and a NaN", askSees(s, nan), fault(api.ErrNoise)})
}

// P14.7: how many places, and which.
func TestPicksEdges(t *testing.T) {
	m := motion(part(api.KindSpeed, 1, 0, 0), part(api.KindFade, 1, 0, 0))
	no := fault(api.ErrRange)
	hold(t,
		told{"none", askPicks(m), no},
		told{"an empty list", saysMat(model.Picks(m, []int{})), no},
		told{"one", askPicks(m, 1), isMat(mat(1, 3, 0, 1, 0))},
		told{"the last ahead of the first", askPicks(m, 2, 0), isMat(mat(2, 3, 0, 0, 1, 1, 0, 0))},
		told{"one twice", askPicks(m, 1, 1), isMat(mat(2, 3, 0, 1, 0, 0, 1, 0))},
		told{"6", askPicks(m, 0, 1, 2, 2, 1, 0), isMat(mat(6, 3, 1, 0, 0, 0, 1, 0, 0, 0, 1, 0, 0, 1, 0, 1, 0, 1, 0, 0))},
		told{"7", askPicks(m, 0, 1, 2, 2, 1, 0, 0), no},
		told{"place -1", askPicks(m, -1), no},
		told{"place Dim", askPicks(m, 3), no},
		told{"place -1 behind others", askPicks(m, 0, 1, -1), no},
		told{"place Dim behind others", askPicks(m, 0, 1, 2, 0, 1, 3), no},
		told{"far places", askPicks(m, math.MaxInt, math.MinInt), no},
		told{"the 12th of 12", askPicks(alone(api.KindWalk, 12, 0), 11), isMat(mat(1, 12, append(filled(11, 0), 1)...))},
		told{"the 13th of 12", askPicks(alone(api.KindWalk, 12, 0), 12), no},
		told{"of one", askPicks(alone(api.KindStill, 1, 0), 0), isMat(mat(1, 1, 1))},
		told{"no parts", askPicks(api.Motion{}, 0), no},
		told{"Check's error, and none", askPicks(alone(5, 1, 0)), fault(api.ErrKind)},
		told{"Check's error, and place -1", askPicks(alone(api.KindWalk, 1, -1), -1), fault(api.ErrNoise)},
		told{"Check's error, and 7", askPicks(alone(api.KindPull, 5, 1), 0, 0, 0, 0, 0, 0, 0), fault(api.ErrLong)},
	)
}
