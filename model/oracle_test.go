package model_test

import (
	"fmt"
	"math"
	"math/big"
	"slices"

	"binnacle/api"
)

func isFinite(x float64) bool { return !math.IsNaN(x) && !math.IsInf(x, 0) }

func fraction(x float64) *big.Rat { return new(big.Rat).SetFloat64(x) }

// refusal is how a reckoning by the words ends early.
type refusal struct{ err api.Errno }

// refuse ends the reckoning, if something is so.
func refuse(so bool, err api.Errno) {
	if so {
		panic(refusal{err})
	}
}

// reckoned is what a reckoning comes to: its answer or its refusal.
func reckoned(of func() answer) (out answer) {
	defer func() {
		switch x := recover().(type) {
		case nil:
		case refusal:
			out = fault(x.err)
		default:
			panic(x)
		}
	}()
	return of()
}

// step is a fraction rounded once, with the sign that a nought is to have; what isn't finite is refused.
func step(x *big.Rat, neg bool) float64 {
	out, _ := x.Float64()
	refuse(!isFinite(out), api.ErrOver)
	if out == 0 && neg {
		return minus
	}
	return out
}

func plus(a, b float64) float64 {
	return step(new(big.Rat).Add(fraction(a), fraction(b)), a == 0 && b == 0 && math.Signbit(a) && math.Signbit(b))
}

func times(a, b float64) float64 {
	return step(new(big.Rat).Mul(fraction(a), fraction(b)), math.Signbit(a) != math.Signbit(b))
}

func over(a, b float64) float64 {
	return step(new(big.Rat).Quo(fraction(a), fraction(b)), math.Signbit(a) != math.Signbit(b))
}

// root has digits enough: no root of a number lies so near to the middle of two.
func root(a float64) float64 {
	x, _ := new(big.Float).Sqrt(new(big.Float).SetPrec(300).SetFloat64(a)).Float64()
	return x
}

func areNumbers(l ...float64) {
	for _, x := range l {
		refuse(!isFinite(x), api.ErrNumber)
	}
}

// number is one of a state's: of which part and axis, and of which order.
type number struct{ part, axis, order int }

// orders is how many numbers an axis of a kind has.
func orders(kind int) int {
	return map[int]int{api.KindStill: 1, api.KindWalk: 1, api.KindSpeed: 2, api.KindPull: 3, api.KindFade: 1}[kind]
}

// checked is Check by the words, and then the state's numbers in their order.
func checked(m api.Motion) []number {
	refuse(len(m.Parts) == 0, api.ErrRange)
	total := 0
	for _, p := range m.Parts {
		refuse(p.Kind < 0 || p.Kind > 4, api.ErrKind)
		refuse(p.Axes < 1 || p.Axes > 12, api.ErrRange)
		areNumbers(p.Noise, p.Fade)
		for _, x := range []float64{p.Noise, p.Fade} {
			refuse(x < 0 || x > 0x1p100, api.ErrNoise)
		}
		total += orders(p.Kind) * p.Axes
	}
	refuse(total > 12, api.ErrLong)
	var out []number
	for part, p := range m.Parts {
		for axis := range p.Axes {
			for order := range orders(p.Kind) {
				out = append(out, number{part, axis, order})
			}
		}
	}
	return out
}

// wordsOfSeconds: P14.2.
func wordsOfSeconds(ticks int64) float64 {
	refuse(ticks < -end || ticks > end, api.ErrRange)
	return over(float64(ticks), 1000000)
}

// wordsOfPlace and wordsOfNames: P14.1.
func wordsOfPlace(m api.Motion, part, axis, order int) int {
	place := slices.Index(checked(m), number{part, axis, order})
	refuse(place < 0, api.ErrRange)
	return place
}

func wordsOfNames(m api.Motion) []string {
	var out []string
	for _, n := range checked(m) {
		out = append(out, nameOf(n))
	}
	return out
}

func nameOf(n number) string { return fmt.Sprintf("%c%d.%d", "pva"[n.order], n.part, n.axis) }

// entry is the number that a part's block has in row i and column j.
type entry func(p api.Part, d float64, i, j int) float64

// entryOfF: P14.3.
func entryOfF(p api.Part, d float64, i, j int) float64 {
	switch {
	case p.Kind == api.KindFade:
		return over(1, plus(1, times(p.Fade, d)))
	case j == i:
		return 1
	case j == i+1:
		return d
	case j == i+2:
		return over(times(d, d), 2)
	}
	return 0
}

// entryOfQ: P14.4.
func entryOfQ(p api.Part, d float64, i, j int) float64 {
	a := times(p.Noise, d)
	ad := times(a, d)
	add := times(ad, d)
	addd := times(add, d)
	switch [3]int{p.Kind, max(i, j), min(i, j)} {
	case [3]int{api.KindWalk, 0, 0}, [3]int{api.KindFade, 0, 0}, [3]int{api.KindSpeed, 1, 1}, [3]int{api.KindPull, 2, 2}:
		return a
	case [3]int{api.KindSpeed, 1, 0}, [3]int{api.KindPull, 2, 1}:
		return over(ad, 2)
	case [3]int{api.KindSpeed, 0, 0}, [3]int{api.KindPull, 1, 1}:
		return over(add, 3)
	case [3]int{api.KindPull, 2, 0}:
		return over(add, 6)
	case [3]int{api.KindPull, 1, 0}:
		return over(addd, 8)
	case [3]int{api.KindPull, 0, 0}:
		return over(times(addd, d), 20)
	}
	return 0
}

// entryOfG: P14.5.
func entryOfG(p api.Part, d float64, i, j int) float64 {
	a := root(times(p.Noise, d))
	ad := times(a, d)
	switch [3]int{p.Kind, i, j} {
	case [3]int{api.KindWalk, 0, 0}, [3]int{api.KindFade, 0, 0}:
		return a
	case [3]int{api.KindSpeed, 0, 0}:
		return over(ad, root(3))
	case [3]int{api.KindSpeed, 1, 0}:
		return over(times(a, root(3)), 2)
	case [3]int{api.KindSpeed, 1, 1}:
		return over(a, 2)
	case [3]int{api.KindPull, 0, 0}:
		return over(times(ad, d), root(20))
	case [3]int{api.KindPull, 1, 0}:
		return over(times(ad, root(20)), 8)
	case [3]int{api.KindPull, 1, 1}:
		return over(ad, root(48))
	case [3]int{api.KindPull, 2, 0}:
		return over(times(a, root(20)), 6)
	case [3]int{api.KindPull, 2, 1}:
		return over(times(a, root(48)), 12)
	case [3]int{api.KindPull, 2, 2}:
		return over(a, 3)
	}
	return 0
}

// wordsOfMat is F, Q or G, number by number: what isn't of one axis is +0.
func wordsOfMat(m api.Motion, ticks int64, of entry) api.Mat {
	state := checked(m)
	refuse(ticks < 0 || ticks > end, api.ErrRange)
	d := wordsOfSeconds(ticks)
	out := mat(len(state), len(state))
	for _, row := range state {
		for _, col := range state {
			x := 0.0
			if row.part == col.part && row.axis == col.axis {
				x = of(m.Parts[row.part], d, row.order, col.order)
			}
			out.At = append(out.At, x)
		}
	}
	return out
}

// isGood ends the reckoning, if a matrix isn't good (P8).
func isGood(m api.Mat) {
	refuse(m.Rows < 0 || m.Rows > 12 || m.Cols < 0 || m.Cols > 12, api.ErrRange)
	refuse(m.Rows*m.Cols != len(m.At), api.ErrShape)
	areNumbers(m.At...)
}

// wordsOfSensor and wordsOfSees: P14.6.
func wordsOfSensor(s api.Sensor, dim int) {
	refuse(s.ID < 0 || s.ID > 63, api.ErrRange)
	isGood(s.H)
	refuse(s.H.Rows < 1 || s.H.Rows > 6, api.ErrRange)
	refuse(s.H.Cols != dim, api.ErrShape)
	refuse(len(s.R) != s.H.Rows, api.ErrShape)
	areNumbers(s.R...)
	areNumbers(s.Gate)
	for _, r := range s.R {
		refuse(r <= 0 || r < 0x1p-200 || r > 0x1p200, api.ErrNoise)
	}
	refuse(s.Gate < 0, api.ErrNoise)
}

func wordsOfSees(s api.Sensor, x []float64) []float64 {
	wordsOfSensor(s, len(x))
	areNumbers(x...)
	var out []float64
	for row := range s.H.Rows {
		sum := 0.0
		for k, a := range x {
			sum = plus(sum, times(s.H.At[row*len(x)+k], a))
		}
		out = append(out, sum)
	}
	return out
}

// wordsOfPicks: P14.7.
func wordsOfPicks(m api.Motion, places []int) api.Mat {
	dim := len(checked(m))
	refuse(len(places) < 1 || len(places) > 6, api.ErrRange)
	out := mat(len(places), dim)
	for _, place := range places {
		refuse(place < 0 || place >= dim, api.ErrRange)
		for col := range dim {
			x := 0.0
			if col == place {
				x = 1
			}
			out.At = append(out.At, x)
		}
	}
	return out
}
