package quat_test

import (
	"math"
	"math/big"

	"binnacle/api"
)

func isFinite(x float64) bool { return !math.IsNaN(x) && !math.IsInf(x, 0) }

func fraction(x float64) *big.Rat { return new(big.Rat).SetFloat64(x) }

func isMinus(x float64) bool { return math.Signbit(x) }

// beyond is what a step that isn't finite stops the reckoning with.
type beyond struct{}

// step is a fraction rounded once, with the sign that a nought is to have; it stops the reckoning if that isn't finite.
func step(x *big.Rat, neg bool) float64 {
	out, _ := x.Float64()
	if !isFinite(out) {
		panic(beyond{})
	}
	if out == 0 && neg {
		return minus
	}
	return out
}

// less is a - b; a nought that comes of unlike numbers can't be, and of alike ones it is +0.
func less(a, b float64) float64 {
	return step(new(big.Rat).Sub(fraction(a), fraction(b)), a == 0 && isMinus(a) && b == 0 && !isMinus(b))
}

func plus(a, b float64) float64 { return less(a, -b) }

func times(a, b float64) float64 {
	return step(new(big.Rat).Mul(fraction(a), fraction(b)), isMinus(a) != isMinus(b))
}

func over(a, b float64) float64 {
	return step(new(big.Rat).Quo(fraction(a), fraction(b)), isMinus(a) != isMinus(b))
}

// root has digits enough: no root of a number lies so near to the middle of two.
func root(a float64) float64 {
	x, _ := new(big.Float).Sqrt(new(big.Float).SetPrec(300).SetFloat64(a)).Float64()
	return x
}

// two is 2^k as a fraction.
func two(k int) *big.Rat {
	p := new(big.Int).Lsh(big.NewInt(1), uint(max(k, -k)))
	if k < 0 {
		return new(big.Rat).SetFrac(big.NewInt(1), p)
	}
	return new(big.Rat).SetInt(p)
}

// timesTwo is x times 2^k, taken exactly and rounded once.
func timesTwo(x float64, k int) float64 {
	return step(new(big.Rat).Mul(fraction(x), two(k)), isMinus(x))
}

// question is what is handed in; each call takes what it needs.
type question struct {
	a, b api.Quat
	v, w api.Vec
	m    api.Mat
	t    float64
}

// answer is all that a call may say.
type answer struct {
	err api.Errno
	q   api.Quat
	v   api.Vec
	m   api.Mat
	x   float64
	yes bool
}

func (a answer) is(b answer) bool {
	return a.err == b.err && sameQuat(a.q, b.q) && sameVec(a.v, b.v) && sameMat(a.m, b.m) && sameNumber(a.x, b.x) && a.yes == b.yes
}

func fault(e api.Errno) answer { return answer{err: e} }

// refusal is how a word's reckoning ends early.
type refusal struct{ err api.Errno }

// refuse ends the reckoning, if something is so.
func refuse(so bool, e api.Errno) {
	if so {
		panic(refusal{e})
	}
}

// reckoned is what a reckoning comes to: its answer, its refusal, or ErrOver.
func reckoned(of func() answer) (out answer) {
	defer func() {
		switch x := recover().(type) {
		case nil:
		case beyond:
			out = fault(api.ErrOver)
		case refusal:
			out = fault(x.err)
		default:
			panic(x)
		}
	}()
	return of()
}

func areNumbers(l ...float64) {
	for _, x := range l {
		refuse(!isFinite(x), api.ErrNumber)
	}
}

func areQuats(l ...api.Quat) {
	for _, q := range l {
		areNumbers(q.W, q.X, q.Y, q.Z)
	}
}

func areVecs(l ...api.Vec) {
	for _, v := range l {
		areNumbers(v[0], v[1], v[2])
	}
}

// powerOf is the k for which the greatest amount is at least 2^k and below 2^(k + 1); all may not be 0.
func powerOf(x ...float64) int {
	greatest := 0.0
	for _, a := range x {
		if math.Abs(a) > greatest {
			greatest = math.Abs(a)
		}
	}
	k := -1074
	for greatest >= math.Ldexp(1, k+1) {
		k++
	}
	return k
}

// wordsOfUnit, wordsOfConj and wordsOfDot: P12.1.
func wordsOfUnit(q api.Quat) api.Quat {
	areQuats(q)
	refuse(q.W == 0 && q.X == 0 && q.Y == 0 && q.Z == 0, api.ErrZero)
	k := powerOf(q.W, q.X, q.Y, q.Z)
	w, x, y, z := timesTwo(q.W, -k), timesTwo(q.X, -k), timesTwo(q.Y, -k), timesTwo(q.Z, -k)
	n := plus(plus(plus(times(w, w), times(x, x)), times(y, y)), times(z, z))
	r := root(n)
	return quatOf(over(w, r), over(x, r), over(y, r), over(z, r))
}

func wordsOfConj(q api.Quat) api.Quat {
	areQuats(q)
	return quatOf(q.W, -q.X, -q.Y, -q.Z)
}

func wordsOfDot(a, b api.Quat) float64 {
	areQuats(a, b)
	return plus(plus(plus(times(a.W, b.W), times(a.X, b.X)), times(a.Y, b.Y)), times(a.Z, b.Z))
}

// wordsOfMul and wordsOfJoin: P12.2.
func wordsOfMul(a, b api.Quat) api.Quat {
	areQuats(a, b)
	return quatOf(
		less(less(less(times(a.W, b.W), times(a.X, b.X)), times(a.Y, b.Y)), times(a.Z, b.Z)),
		less(plus(plus(times(a.W, b.X), times(a.X, b.W)), times(a.Y, b.Z)), times(a.Z, b.Y)),
		plus(plus(less(times(a.W, b.Y), times(a.X, b.Z)), times(a.Y, b.W)), times(a.Z, b.X)),
		plus(less(plus(times(a.W, b.Z), times(a.X, b.Y)), times(a.Y, b.X)), times(a.Z, b.W)))
}

func wordsOfJoin(a, b api.Quat) api.Quat { return wordsOfUnit(wordsOfMul(a, b)) }

// wordsOfCross and wordsOfTurn: P12.3. What isn't finite on the way goes on and isn't finite at the end: TestGoingOn holds that.
func wordsOfCross(a, b api.Vec) api.Vec {
	areVecs(a, b)
	return vec(less(times(a[1], b[2]), times(a[2], b[1])), less(times(a[2], b[0]), times(a[0], b[2])), less(times(a[0], b[1]), times(a[1], b[0])))
}

func wordsOfTurn(q api.Quat, v api.Vec) api.Vec {
	areQuats(q)
	areVecs(v)
	p := vec(q.X, q.Y, q.Z)
	t := wordsOfCross(p, v)
	t = vec(times(t[0], 2), times(t[1], 2), times(t[2], 2))
	u := wordsOfCross(p, t)
	return vec(plus(plus(v[0], times(q.W, t[0])), u[0]), plus(plus(v[1], times(q.W, t[1])), u[1]), plus(plus(v[2], times(q.W, t[2])), u[2]))
}

// wordsOfMatrix and wordsOfFrom: P12.4.
func wordsOfMatrix(q api.Quat) api.Mat {
	areQuats(q)
	w, x, y, z := q.W, q.X, q.Y, q.Z
	onIt := func(a, b float64) float64 { return less(1, times(2, plus(times(a, a), times(b, b)))) }
	sum := func(a, b, c, d float64) float64 { return times(2, plus(times(a, b), times(c, d))) }
	gap := func(a, b, c, d float64) float64 { return times(2, less(times(a, b), times(c, d))) }
	return the3(
		onIt(y, z), gap(x, y, w, z), sum(x, z, w, y),
		sum(x, y, w, z), onIt(x, z), gap(y, z, w, x),
		gap(x, z, w, y), sum(y, z, w, x), onIt(x, y))
}

// decides is which of t, a, b, c it is that none of the others is above, the first of such.
func decides(t, a, b, c float64) int {
	switch {
	case t >= a && t >= b && t >= c:
		return 0
	case a >= t && a >= b && a >= c:
		return 1
	case b >= t && b >= a && b >= c:
		return 2
	}
	return 3
}

// is3 ends the reckoning if a matrix isn't good (P8), or isn't one of space.
func is3(m api.Mat) {
	refuse(m.Rows < 0 || m.Rows > 12 || m.Cols < 0 || m.Cols > 12, api.ErrRange)
	refuse(m.Rows*m.Cols != len(m.At), api.ErrShape)
	areNumbers(m.At...)
	refuse(m.Rows != 3 || m.Cols != 3, api.ErrShape)
}

func wordsOfFrom(m api.Mat) api.Quat {
	is3(m)
	at := func(i, j int) float64 { return m.At[3*i+j] }
	a, b, c := at(0, 0), at(1, 1), at(2, 2)
	t := plus(plus(a, b), c)
	switch decides(t, a, b, c) {
	case 0:
		return wordsOfUnit(quatOf(plus(1, t), less(at(2, 1), at(1, 2)), less(at(0, 2), at(2, 0)), less(at(1, 0), at(0, 1))))
	case 1:
		return wordsOfUnit(quatOf(less(at(2, 1), at(1, 2)), less(less(plus(1, a), b), c), plus(at(0, 1), at(1, 0)), plus(at(0, 2), at(2, 0))))
	case 2:
		return wordsOfUnit(quatOf(less(at(0, 2), at(2, 0)), plus(at(0, 1), at(1, 0)), less(plus(less(1, a), b), c), plus(at(1, 2), at(2, 1))))
	}
	return wordsOfUnit(quatOf(less(at(1, 0), at(0, 1)), plus(at(0, 2), at(2, 0)), plus(at(1, 2), at(2, 1)), plus(less(less(1, a), b), c)))
}

// wordsOfCayley and wordsOfGibbs: P12.5.
func wordsOfCayley(v api.Vec) api.Quat {
	areVecs(v)
	return wordsOfUnit(quatOf(1, over(v[0], 2), over(v[1], 2), over(v[2], 2)))
}

func wordsOfGibbs(q api.Quat) api.Vec {
	areQuats(q)
	refuse(q.W == 0, api.ErrZero)
	return vec(over(times(q.X, 2), q.W), over(times(q.Y, 2), q.W), over(times(q.Z, 2), q.W))
}

// wordsOfLength is chapter 10's, of three that aren't all 0.
func wordsOfLength(v api.Vec) float64 {
	k := powerOf(v[0], v[1], v[2])
	s := 0.0
	for _, x := range v {
		y := timesTwo(x, -k)
		s = plus(s, times(y, y))
	}
	return timesTwo(root(s), k)
}

// wordsOfBetween: P12.6. onePlus is its 1 + p.
func wordsOfBetween(a, b api.Vec) (q api.Quat, onePlus float64) {
	areVecs(a, b)
	refuse(a[0] == 0 && a[1] == 0 && a[2] == 0, api.ErrZero)
	refuse(b[0] == 0 && b[1] == 0 && b[2] == 0, api.ErrZero)
	g, h := wordsOfLength(a), wordsOfLength(b)
	c := vec(over(a[0], g), over(a[1], g), over(a[2], g))
	d := vec(over(b[0], h), over(b[1], h), over(b[2], h))
	p := plus(plus(times(c[0], d[0]), times(c[1], d[1])), times(c[2], d[2]))
	n := wordsOfCross(c, d)
	onePlus = plus(1, p)
	if onePlus == 0 && n[0] == 0 && n[1] == 0 && n[2] == 0 {
		x, y, z := math.Abs(c[0]), math.Abs(c[1]), math.Abs(c[2])
		switch {
		case x <= y && x <= z:
			n = wordsOfCross(c, vec(1, 0, 0))
		case y <= x && y <= z:
			n = wordsOfCross(c, vec(0, 1, 0))
		default:
			n = wordsOfCross(c, vec(0, 0, 1))
		}
		return wordsOfUnit(quatOf(0, n[0], n[1], n[2])), onePlus
	}
	return wordsOfUnit(quatOf(onePlus, n[0], n[1], n[2])), onePlus
}

// wordsOfNearest, wordsOfMix, wordsOfApart and wordsOfGood: P12.7.
func wordsOfNearest(a, b api.Quat) api.Quat {
	areQuats(a, b)
	if wordsOfDot(a, b) < 0 {
		return otherSigns(b)
	}
	return b
}

func wordsOfMix(a, b api.Quat, t float64) api.Quat {
	areQuats(a, b)
	areNumbers(t)
	from, to, out := numbersOf(a), numbersOf(wordsOfNearest(a, b)), []float64{}
	for i := range from {
		out = append(out, plus(times(less(1, t), from[i]), times(t, to[i])))
	}
	return wordsOfUnit(quatFrom(out))
}

func wordsOfApart(a, b api.Quat) float64 {
	areQuats(a, b)
	d := wordsOfMul(wordsOfConj(a), b)
	if d.X == 0 && d.Y == 0 && d.Z == 0 {
		return 0
	}
	return wordsOfLength(vec(d.X, d.Y, d.Z))
}

func wordsOfGood(q api.Quat) bool {
	for _, x := range numbersOf(q) {
		if !isFinite(x) {
			return false
		}
	}
	return offOne(q).Cmp(two(-48)) <= 0
}

// squares is the sum of numbers' squares, without any rounding.
func squares(l ...float64) *big.Rat {
	out := new(big.Rat)
	for _, x := range l {
		out.Add(out, new(big.Rat).Mul(fraction(x), fraction(x)))
	}
	return out
}

// offOne is by how much a sum of squares differs from 1.
func offOne(q api.Quat) *big.Rat {
	out := new(big.Rat).Sub(squares(numbersOf(q)...), big.NewRat(1, 1))
	return out.Abs(out)
}
