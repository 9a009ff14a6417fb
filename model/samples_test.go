package model_test

import (
	"math"
	"math/rand"
	"slices"
	"testing"

	"binnacle/api"
)

var (
	inf   = math.Inf(1)
	minus = math.Copysign(0, -1)
	nan   = math.NaN()
)

const (
	most     = math.MaxFloat64
	least    = 0x1p-1074
	end      = int64(1) << 50 // the last time
	second   = int64(1000000)
	tooNoisy = 0x1.0000000000001p100 // the number next above 2^100
)

func part(kind, axes int, noise, fade float64) api.Part {
	return api.Part{Kind: kind, Axes: axes, Noise: noise, Fade: fade}
}

func motion(p ...api.Part) api.Motion { return api.Motion{Parts: p} }

// alone is a motion of one part that doesn't fade.
func alone(kind, axes int, noise float64) api.Motion { return motion(part(kind, axes, noise, 0)) }

func mat(rows, cols int, at ...float64) api.Mat { return api.Mat{Rows: rows, Cols: cols, At: at} }

func list(x ...float64) []float64 { return x }

// filled is a list of n times x.
func filled(n int, x float64) []float64 { return slices.Repeat(list(x), n) }

// sameNumber tells of bits, those of NaNs and noughts too.
func sameNumber(a, b float64) bool { return math.Float64bits(a) == math.Float64bits(b) }

func sameList(a, b []float64) bool { return slices.EqualFunc(a, b, sameNumber) }

func sameMat(a, b api.Mat) bool {
	return a.Rows == b.Rows && a.Cols == b.Cols && sameList(a.At, b.At)
}

// few stops a test that has found enough.
func few(t *testing.T, wrong *int) {
	t.Helper()
	if *wrong++; *wrong > 10 {
		t.FailNow()
	}
}

// enough tells if something was met too seldom to be held.
func enough(t *testing.T, what string, asked, least int) {
	t.Helper()
	if asked < least {
		t.Errorf("%s: %d times, not %d", what, asked, least)
	}
}

// unfit are numbers that aren't finite.
func unfit() []float64 {
	return list(inf, -inf, nan, -nan, math.Float64frombits(0x7ff0000000000001), math.Float64frombits(0xffffffffffffffff))
}

// oneOf is one of a list.
func oneOf[T any](r *rand.Rand, l ...T) T { return l[r.Intn(len(l))] }

// between is a number above 0 of a power of 2 from low to high, both among them.
func between(r *rand.Rand, low, high int) float64 {
	return min(math.Ldexp(1+r.Float64(), low+r.Intn(high-low+1)), math.Ldexp(1, high))
}

// anyFinite is a finite number: of one size, of any size, whole, at an end, a nought.
func anyFinite(r *rand.Rand) float64 {
	x := 0.0
	switch r.Intn(5) {
	case 0:
		x = between(r, -4, 4)
	case 1:
		x = between(r, -1074, 1023)
	case 2:
		x = float64(r.Intn(20))
	case 3:
		x = oneOf(r, least, 0x1p-1022, 0x1p-537, 1, 0x1p512, 0x1p1023, most)
	}
	return math.Copysign(x, float64(r.Intn(2))-0.5)
}

// fitNoise is a noise or a fading that may be.
func fitNoise(r *rand.Rand) float64 {
	switch r.Intn(6) {
	case 0:
		return oneOf(r, 0, minus, 0x1p100, 0x1.fffffffffffffp99, least, 1)
	case 1:
		return between(r, -1074, -900)
	case 2:
		return float64(1 + r.Intn(30))
	case 3:
		return between(r, -4, 4)
	}
	return between(r, -100, 100)
}

// middleNoise is a noise from 2^-100 to 2^100, both among them.
func middleNoise(r *rand.Rand) float64 {
	switch r.Intn(4) {
	case 0:
		return oneOf(r, 0x1p-100, 0x1p100, 1, 0x1.0000000000001p-100, 0x1.fffffffffffffp99)
	case 1:
		return float64(1 + r.Intn(30))
	}
	return between(r, -100, 100)
}

// moving is a motion that may be, of some of the kinds, with these noises; as often as not it has MaxDim numbers.
func moving(r *rand.Rand, noise func(r *rand.Rand) float64, kinds ...int) api.Motion {
	var m api.Motion
	for room := oneOf(r, 12, 1+r.Intn(12)); room > 0; {
		kind := oneOf(r, kinds...)
		most := room / orders(kind)
		if most == 0 {
			if len(m.Parts) > 0 {
				return m
			}
			continue
		}
		axes := 1 + r.Intn(oneOf(r, 1, most))
		m.Parts = append(m.Parts, part(kind, axes, noise(r), fitNoise(r)))
		room -= axes * orders(kind)
	}
	return m
}

func anyKinds() []int {
	return []int{api.KindStill, api.KindWalk, api.KindSpeed, api.KindPull, api.KindFade}
}

// fitMotion is a motion that may be.
func fitMotion(r *rand.Rand) api.Motion {
	kinds := oneOf(r, anyKinds(), anyKinds(), []int{oneOf(r, anyKinds()...)}, []int{oneOf(r, anyKinds()...), oneOf(r, anyKinds()...)})
	// A motion of KindPull alone may not find room: then there is room for a still one.
	return moving(r, fitNoise, append(slices.Clone(kinds), api.KindStill)...)
}

// spoiltMotion has something wrong, in one part or in several.
func spoiltMotion(r *rand.Rand) api.Motion {
	m := fitMotion(r)
	for range 1 + r.Intn(3) {
		p := &m.Parts[r.Intn(len(m.Parts))]
		switch r.Intn(7) {
		case 0:
			p.Kind = oneOf(r, -1, 5, 9, math.MaxInt, math.MinInt)
		case 1:
			p.Axes = oneOf(r, -1, 0, 13, math.MaxInt, math.MinInt)
		case 2:
			p.Noise = oneOf(r, unfit()...)
		case 3:
			p.Fade = oneOf(r, unfit()...)
		case 4:
			p.Noise = oneOf(r, -least, -1, -most, tooNoisy, most)
		case 5:
			p.Fade = oneOf(r, -least, -1, -most, tooNoisy, most)
		case 6:
			p.Axes = 12
			m.Parts = append(m.Parts, part(r.Intn(5), 1+r.Intn(12), 1, 1))
		}
	}
	return m
}

func anyMotion(r *rand.Rand) api.Motion {
	switch r.Intn(8) {
	case 0:
		return api.Motion{}
	case 1, 2, 3:
		return spoiltMotion(r)
	}
	return fitMotion(r)
}

// fitTicks are from 0 on, more of the short times than of the long ones.
func fitTicks(r *rand.Rand) int64 {
	switch r.Intn(4) {
	case 0:
		return oneOf(r, 0, 1, 2, 1000, second, 2*second, 3*second, end-1, end)
	case 1:
		return second * r.Int63n(1000)
	}
	return r.Int63n(end) >> r.Intn(50)
}

func anyTicks(r *rand.Rand) int64 {
	switch r.Intn(5) {
	case 0:
		return oneOf(r, -1, -end, -end-1, end+1, math.MaxInt64, math.MinInt64, -second)
	case 1:
		return -fitTicks(r)
	}
	return fitTicks(r)
}

// fitSensor is a sensor that may be, for states of dim numbers; its clock may not be, which nobody looks at.
func fitSensor(r *rand.Rand, dim int) api.Sensor {
	s := api.Sensor{ID: oneOf(r, 0, 63, r.Intn(64)), H: mat(1+r.Intn(6), dim), Clock: api.Clock{Num: -7}}
	for range s.H.Rows * dim {
		s.H.At = append(s.H.At, oneOf(r, anyFinite(r), float64(r.Intn(5)-2), between(r, -4, 4)))
	}
	for range s.H.Rows {
		s.R = append(s.R, oneOf(r, 0x1p-200, 0x1p200, 1, between(r, -200, 200)))
	}
	s.Gate = oneOf(r, 0, minus, least, most, 9.21, between(r, -4, 4))
	return s
}

// spoil makes something of a sensor wrong.
func spoil(r *rand.Rand, s *api.Sensor) {
	switch r.Intn(10) {
	case 0:
		s.ID = oneOf(r, -1, 64, math.MaxInt, math.MinInt)
	case 1:
		s.H.Rows = oneOf(r, -1, 0, s.H.Rows+1, 13, math.MaxInt, math.MinInt)
	case 2:
		s.H.Cols = oneOf(r, -1, 0, s.H.Cols+1, 13, math.MaxInt, math.MinInt)
	case 3:
		s.H.At = append(s.H.At, 1)
	case 4:
		if len(s.H.At) > 0 {
			s.H.At[r.Intn(len(s.H.At))] = oneOf(r, unfit()...)
		}
	case 5:
		s.H.Rows = oneOf(r, 0, 7, 12)
		s.H.At = filled(max(0, s.H.Rows*min(12, s.H.Cols)), 1)
		s.R = filled(s.H.Rows, 1)
	case 6:
		s.R = filled(oneOf(r, 0, len(s.R)+1, 7), 1)
	case 7:
		s.R = append(s.R[:max(0, len(s.R)-1)], oneOf(r, unfit()...))
	case 8:
		s.R = append(s.R[:max(0, len(s.R)-1)], oneOf(r, 0, minus, -1, 0x1.fffffffffffffp-201, 0x1.0000000000001p200, least, most))
	case 9:
		s.Gate = oneOf(r, inf, -inf, nan, -least, -1, -most)
	}
}

// anySensor is one of each sort, for states of dim numbers.
func anySensor(r *rand.Rand, dim int) api.Sensor {
	s := fitSensor(r, max(0, min(dim, 12)))
	if r.Intn(2) == 0 {
		for range 1 + r.Intn(3) {
			spoil(r, &s)
		}
	}
	return s
}

// anyPlaces are places of a state of dim numbers, or nearly so.
func anyPlaces(r *rand.Rand, dim int) []int {
	var out []int
	for range oneOf(r, 0, 1, 6, 7, 1+r.Intn(6), 1+r.Intn(6)) {
		out = append(out, r.Intn(dim))
	}
	if len(out) > 0 && r.Intn(3) == 0 {
		out[r.Intn(len(out))] = oneOf(r, -1, dim, math.MaxInt, math.MinInt, 11)
	}
	return out
}
