package model_test

import (
	"math"
	"math/rand"
	"testing"

	"binnacle/api"
	"binnacle/model"
)

// lowest is the first of a set's members, by which its error is to be told; -1 of none.
func lowest(set, members int) int {
	for k := range members {
		if set>>k&1 == 1 {
			return k
		}
	}
	return -1
}

const motionFaults = 3*4 + 1

// spoiltBy is a motion of three parts with a set of faults: four of each part, part by part, in the order in which the chapter names them, and last that they are too many, by a part ahead of them.
func spoiltBy(set int) (api.Motion, api.Errno) {
	m := motion(part(api.KindSpeed, 2, 1, 2), part(api.KindPull, 2, 3, 4), part(api.KindFade, 1, 5, 6))
	for k := range 12 {
		if set>>k&1 == 0 {
			continue
		}
		p := &m.Parts[k/4]
		switch k % 4 {
		case 0:
			p.Kind = []int{-1, 5, 9}[k/4]
		case 1:
			p.Axes = []int{0, 13, math.MinInt}[k/4]
		case 2:
			p.Noise = []float64{nan, -inf, inf}[k/4]
		case 3:
			p.Fade = []float64{-1, tooNoisy, -least}[k/4]
		}
	}
	if set>>12&1 == 1 {
		m.Parts = append([]api.Part{part(api.KindPull, 4, 0, 0)}, m.Parts...)
	}
	k := lowest(set, motionFaults)
	if k < 0 {
		return m, api.OK
	}
	if k == 12 {
		return m, api.ErrLong
	}
	return m, []api.Errno{api.ErrKind, api.ErrRange, api.ErrNumber, api.ErrNoise}[k%4]
}

// P14.1, P4: all sets of a motion's faults, for every call that takes one, with what else may be wrong: the first one is told, with zero values beside it.
func TestSetsOfFaultsOfAMotion(t *testing.T) {
	wrong := 0
	for set := range 1 << motionFaults {
		m, err := spoiltBy(set)
		for _, c := range calls() {
			switch c.name {
			case "Seconds", "CheckSensor", "Sees":
				continue
			}
			right := question{m: m, ticks: 5, places: []int{0}}
			spoilt := question{m: m, ticks: -1, part: -1, places: []int{-1}}
			for _, q := range []question{right, spoilt} {
				want := err
				if want == api.OK && q.part < 0 && c.name != "Check" && c.name != "Dim" && c.name != "Names" {
					want = api.ErrRange
				}
				got := c.ask(q)
				if got.err != want || want != api.OK && !got.is(fault(want)) {
					t.Errorf("%s of %+v: %+v, not error %d", c.name, q, got, want)
					few(t, &wrong)
				}
			}
		}
	}
}

// P14.1: of the noise and the fading either may be the one that is wrong; what isn't finite comes ahead of what is below 0 or too great, whichever it is.
func TestNoiseAndFade(t *testing.T) {
	for _, x := range unfit() {
		for _, y := range list(-1, tooNoisy, -least, -most, most) {
			hold(t,
				told{"noise", askCheck(part(api.KindWalk, 1, x, y)), fault(api.ErrNumber)},
				told{"fading", askCheck(part(api.KindWalk, 1, y, x)), fault(api.ErrNumber)},
				told{"in another part", askCheck(part(api.KindWalk, 1, y, 0), part(api.KindWalk, 1, 0, x)), fault(api.ErrNoise)},
				told{"in another part, the other way", askCheck(part(api.KindWalk, 1, 0, x), part(api.KindWalk, 1, y, 0)), fault(api.ErrNumber)},
			)
		}
	}
}

const sensorFaults = 14

// sensorBy is a sensor and an x with a set of faults, in the order in which the chapter names them. The last two are Sees's alone.
func sensorBy(set int) (api.Sensor, []float64, api.Errno) {
	has := func(k int) bool { return set>>k&1 == 1 }
	rows := 2
	if has(5) {
		rows = 7
	}
	s := seeing(rows, 3, filled(3*rows, 1)...)
	x := list(1, 1, 1)
	if has(0) {
		s.ID = 64
	}
	if has(1) {
		s.H.Rows = -1
	}
	if has(2) {
		s.H.Cols = 13
	}
	if has(12) {
		x[1] = inf
	}
	if has(13) {
		s.H.At[3], s.H.At[4] = most, most
	}
	if has(4) {
		s.H.At[1] = nan
	}
	if has(3) {
		s.H.At = s.H.At[:len(s.H.At)-1]
	}
	if has(6) {
		x = append(x, 1)
	}
	if has(7) {
		s.R = append(s.R, 1)
	}
	if has(8) {
		s.R[1] = nan
	}
	if has(9) {
		s.Gate = -inf
	}
	if has(10) {
		s.R[0] = 0
	}
	if has(11) && !has(9) {
		s.Gate = -1
	}
	k := lowest(set, sensorFaults)
	if k < 0 {
		return s, x, api.OK
	}
	return s, x, []api.Errno{api.ErrRange, api.ErrRange, api.ErrRange, api.ErrShape, api.ErrNumber, api.ErrRange, api.ErrShape, api.ErrShape, api.ErrNumber, api.ErrNumber, api.ErrNoise, api.ErrNoise, api.ErrNumber, api.ErrOver}[k]
}

// P14.6, P4: all sets of a sensor's faults: the first one is told, with zero values beside it.
func TestSetsOfFaultsOfASensor(t *testing.T) {
	wrong := 0
	for set := range 1 << sensorFaults {
		s, x, err := sensorBy(set)
		if got := saysList(model.Sees(s, x)); got.err != err || err != api.OK && !got.is(fault(err)) {
			t.Errorf("Sees of %+v, %v: %+v, not error %d", s, x, got, err)
			few(t, &wrong)
		}
		if lowest(set, sensorFaults) >= 12 {
			err = api.OK
		}
		if got := model.CheckSensor(s, len(x)); got != err {
			t.Errorf("CheckSensor of %+v, %d: %d, not %d", s, len(x), got, err)
			few(t, &wrong)
		}
	}
}

// P14.7: of places that may not be, wherever they stand, and too many of them: ErrRange.
func TestPlacesThatMayNotBe(t *testing.T) {
	m := alone(api.KindPull, 2, 1)
	for n := 1; n <= 9; n++ {
		for k := range n {
			for _, place := range []int{-1, 6, 7, math.MaxInt, math.MinInt} {
				l := make([]int, n)
				l[k] = place
				hold(t, told{"a place", askPicks(m, l...), fault(api.ErrRange)})
			}
		}
	}
}

// anyBits is a float of any bits.
func anyBits(r *rand.Rand) float64 { return math.Float64frombits(r.Uint64()) }

// anyInt is an int of any size.
func anyInt(r *rand.Rand) int { return int(int64(r.Uint64()) >> r.Intn(64)) }

// P1: any numbers at all: every call ends and says what the words say.
func TestAnythingComesIn(t *testing.T) {
	r := rand.New(rand.NewSource(1401))
	wrong := 0
	for range 5000 {
		q := question{ticks: int64(r.Uint64()) >> r.Intn(64), dim: anyInt(r), part: anyInt(r), axis: anyInt(r), order: anyInt(r)}
		for range r.Intn(4) {
			q.m.Parts = append(q.m.Parts, part(oneOf(r, anyInt(r), r.Intn(5)), oneOf(r, anyInt(r), 1), anyBits(r), oneOf(r, anyBits(r), 0)))
			q.places = append(q.places, anyInt(r))
			q.x = append(q.x, anyBits(r))
			q.s.R = append(q.s.R, oneOf(r, anyBits(r), 1))
		}
		q.s.ID, q.s.Gate = oneOf(r, anyInt(r), 1), oneOf(r, anyBits(r), 1)
		q.s.H = mat(oneOf(r, anyInt(r), len(q.s.R)), oneOf(r, anyInt(r), len(q.x)), filled(oneOf(r, r.Intn(40), len(q.x)*len(q.s.R)), anyBits(r))...)
		for _, c := range calls() {
			held(t, &wrong, c, q)
		}
	}
}
