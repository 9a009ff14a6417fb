package quat_test

import (
	"math"
	"testing"

	"binnacle/api"
	"binnacle/quat"
)

// told is a case: what was answered, and what should have been.
type told struct {
	what      string
	got, want answer
}

func hold(t *testing.T, cases ...told) {
	t.Helper()
	for _, c := range cases {
		if !c.got.is(c.want) {
			t.Errorf("%s: %+v, not %+v", c.what, c.got, c.want)
		}
	}
}

func isQuat(w, x, y, z float64) answer { return answer{q: quatOf(w, x, y, z)} }

func isVec(x, y, z float64) answer { return answer{v: vec(x, y, z)} }

func isNumber(x float64) answer { return answer{x: x} }

func isMat(m api.Mat) answer { return answer{m: m} }

// the asks are the calls with their numbers one by one.
func askUnit(w, x, y, z float64) answer { return saysQuat(quat.Unit(quatOf(w, x, y, z))) }

func askConj(w, x, y, z float64) answer { return saysQuat(quat.Conj(quatOf(w, x, y, z))) }

func askMul(a, b api.Quat) answer { return saysQuat(quat.Mul(a, b)) }

func askJoin(a, b api.Quat) answer { return saysQuat(quat.Join(a, b)) }

func askDot(a, b api.Quat) answer { return saysNumber(quat.Dot(a, b)) }

func askTurn(q api.Quat, x, y, z float64) answer { return saysVec(quat.Turn(q, vec(x, y, z))) }

func askCross(a, b api.Vec) answer { return saysVec(quat.Cross(a, b)) }

func askMatrix(w, x, y, z float64) answer { return saysMat(quat.Matrix(quatOf(w, x, y, z))) }

func askFrom(at ...float64) answer { return saysQuat(quat.From(the3(at...))) }

func askDiagonal(a, b, c float64) answer { return saysQuat(quat.From(diagonal3(a, b, c))) }

func askCayley(x, y, z float64) answer { return saysQuat(quat.Cayley(vec(x, y, z))) }

func askGibbs(w, x, y, z float64) answer { return saysVec(quat.Gibbs(quatOf(w, x, y, z))) }

func askBetween(a, b api.Vec) answer { return saysQuat(quat.Between(a, b)) }

func askNearest(a, b api.Quat) answer { return saysQuat(quat.Nearest(a, b)) }

func askMix(a, b api.Quat, t float64) answer { return saysQuat(quat.Mix(a, b, t)) }

func askApart(a, b api.Quat) answer { return saysNumber(quat.Apart(a, b)) }

const half = 0x1.6a09e667f3bccp-1 // the root of a half, as 1 / 2^(1/2) is rounded

// The chapter's examples, as they stand.
func TestExamples(t *testing.T) {
	one := quatOf(1, 0, 0, 0)
	hold(t,
		told{"1: Unit", askUnit(0, 3, 4, 0), isQuat(0, 0.6, 0.8, 0)},
		told{"1: Mul", askMul(quatOf(0, 1, 0, 0), quatOf(0, 0, 1, 0)), isQuat(0, 0, 0, 1)},
		told{"1: Unit of noughts", askUnit(0, 0, minus, 0), fault(api.ErrZero)},
		told{"2: Turn", askTurn(quatOf(0.5, 0.5, 0.5, 0.5), 1, 2, 3), isVec(3, 1, 2)},
		told{"2: Cayley", askCayley(0, 0, 0), isQuat(1, 0, 0, 0)},
		told{"2: Between", askBetween(vec(1, 0, 0), vec(-2, 0, 0)), isQuat(0, 0, 0, 1)},
		told{"3: From of the unit matrix", askDiagonal(1, 1, 1), isQuat(1, 0, 0, 0)},
		told{"3: From of noughts", askDiagonal(0, 0, 0), isQuat(1, 0, 0, 0)},
		told{"3: Nearest", askNearest(one, quatOf(-1, 0, 0, 0)), isQuat(1, minus, minus, minus)},
	)
}

// P12.1: noughts of either sign, both ends of the powers, both ends in one, the sum in its order.
func TestUnit(t *testing.T) {
	const end = 0x1p-1022
	hold(t,
		told{"noughts", askUnit(0, 0, 0, 0), fault(api.ErrZero)},
		told{"noughts with a minus", askUnit(minus, minus, minus, minus), fault(api.ErrZero)},
		told{"one nought of them not", askUnit(minus, 0, minus, least), isQuat(minus, 0, minus, 1)},
		told{"signs", askUnit(-2, minus, 0, minus), isQuat(-1, minus, 0, minus)},
		told{"halves", askUnit(-7, 7, 7, -7), isQuat(-0.5, 0.5, 0.5, -0.5)},
		told{"the greatest", askUnit(most, 0, 0, 0), isQuat(1, 0, 0, 0)},
		told{"four of the greatest", askUnit(most, -most, most, most), isQuat(0.5, -0.5, 0.5, 0.5)},
		told{"the least", askUnit(0, -least, 0, 0), isQuat(0, -1, 0, 0)},
		told{"four of the least", askUnit(least, least, -least, least), isQuat(0.5, 0.5, -0.5, 0.5)},
		told{"subnormals", askUnit(0, 0x3p-1074, 0x4p-1074, 0), isQuat(0, 0.6, 0.8, 0)},
		told{"the least normal ones", askUnit(end, 0, end, 0), isQuat(half, 0, half, 0)},
		told{"beside the least normal one", askUnit(end-least, 0, 0, minus), isQuat(1, 0, 0, minus)},
		told{"both ends", askUnit(most, least, -least, 0), isQuat(1, 0, minus, 0)},
		told{"what is rounded as the power is taken out", askUnit(0x1p1000, 0x3p-75, 0, 0), isQuat(1, 0x2p-1074, 0, 0)},
		told{"what isn't rounded again", askUnit(0x1p1000, 0, 0x3p-74, 0), isQuat(1, 0, 0x3p-1074, 0)},
		told{"in order", askUnit(1, 0x1p-27, 0x1p-27, 0x1p-27), isQuat(1, 0x1p-27, 0x1p-27, 0x1p-27)},
		told{"2, 3, 6", askUnit(2, 3, 0, 6), askUnit(0x2p500, 0x3p500, 0, 0x6p500)},
	)
}

// P12.1: each sign, noughts and infinities of either; the sum from its first product on, each product rounded.
func TestConjAndDot(t *testing.T) {
	a := quatOf(1+0x1p-30, 1+0x1p-29, 0, 0)
	hold(t,
		told{"Conj", askConj(1, 2, -3, 4), isQuat(1, -2, 3, -4)},
		told{"Conj of noughts", askConj(0, 0, minus, 0), isQuat(0, minus, 0, minus)},
		told{"Conj of noughts, W too", askConj(minus, minus, 0, minus), isQuat(minus, 0, minus, 0)},
		told{"Conj of both ends", askConj(-most, most, -least, least), isQuat(-most, -most, least, -least)},
		told{"Dot", askDot(quatOf(1, 2, 3, 4), quatOf(5, -6, 7, -8)), isNumber(-18)},
		told{"Dot of noughts", askDot(quatOf(0, 0, 0, 0), quatOf(-1, -1, -1, -1)), isNumber(minus)},
		told{"Dot of noughts, one with no minus", askDot(quatOf(0, 0, minus, 0), quatOf(-1, -1, -1, -1)), isNumber(0)},
		told{"Dot, not fused", askDot(a, quatOf(1+0x1p-30, -1, 0, 0)), isNumber(0)},
		told{"Dot, not fused, the other way", askDot(quatOf(-1, 1+0x1p-30, 0, 0), quatOf(1+0x1p-29, 1+0x1p-30, 0, 0)), isNumber(0)},
		told{"Dot in order", askDot(quatOf(1, 0x1p-60, -1, 0), quatOf(1, 1, 1, 1)), isNumber(0)},
		told{"Dot in order, the last", askDot(quatOf(1, -1, 0x1p-60, 0), quatOf(1, 1, 1, 1)), isNumber(0x1p-60)},
		told{"Dot, a product beyond", askDot(quatOf(0, 0, 0x1p600, 0), quatOf(0, 0, 0x1p600, 0)), fault(api.ErrOver)},
		told{"Dot, a sum beyond, though not the end", askDot(quatOf(most, most, -most, -most), quatOf(1, 1, 1, 1)), fault(api.ErrOver)},
		told{"Dot, not beyond in its order", askDot(quatOf(most, -most, most, -most), quatOf(1, 1, 1, 1)), isNumber(0)},
		told{"Dot, infinities that meet", askDot(quatOf(0x1p600, 0x1p600, 0, 0), quatOf(0x1p600, -0x1p600, 0, 0)), fault(api.ErrOver)},
	)
}

// P12.2: each product in its place, with its sign, in its order; errors of both in Join.
func TestMulAndJoin(t *testing.T) {
	a, b := quatOf(2, 3, 5, 7), quatOf(11, 13, 17, 19)
	great, little := quatOf(0x1p600, 0, 0, 0), quatOf(0x1p-600, 0, 0, 0)
	none := quatOf(0, 0, 0, 0)
	hold(t,
		told{"eight primes", askMul(a, b), isQuat(-235, 35, 123, 101)},
		told{"eight primes, the other way", askMul(b, a), isQuat(-235, 83, 55, 129)},
		told{"i i", askMul(quatOf(0, 1, 0, 0), quatOf(0, 1, 0, 0)), isQuat(-1, 0, 0, 0)},
		told{"j k", askMul(quatOf(0, 0, 1, 0), quatOf(0, 0, 0, 1)), isQuat(0, 1, 0, 0)},
		told{"k j", askMul(quatOf(0, 0, 0, 1), quatOf(0, 0, 1, 0)), isQuat(0, -1, 0, 0)},
		told{"k i", askMul(quatOf(0, 0, 0, 1), quatOf(0, 1, 0, 0)), isQuat(0, 0, 1, 0)},
		told{"noughts with a minus", askMul(quatOf(minus, 0, 0, 0), quatOf(1, 1, 1, 1)), isQuat(minus, 0, 0, 0)},
		told{"a minus that stays in W", askMul(quatOf(-1, 0, 0, 0), none), isQuat(minus, 0, 0, 0)},
		told{"a minus that stays in X", askMul(quatOf(-1, minus, minus, 0), none), isQuat(0, minus, 0, 0)},
		told{"a minus that stays in Y", askMul(quatOf(-1, 0, minus, minus), none), isQuat(0, 0, minus, 0)},
		told{"a minus that stays in Z", askMul(quatOf(-1, minus, 0, minus), none), isQuat(0, 0, 0, minus)},
		told{"not fused", askMul(quatOf(1+0x1p-30, 1, 0, 0), quatOf(1+0x1p-30, 1+0x1p-29, 0, 0)), isQuat(0, 2+0x4p-30, 0, 0)},
		told{"in order", askMul(quatOf(1, 1, 0x1p-60, 0), quatOf(1, 1, 1, 0)), isQuat(-0x1p-60, 2, 1, 1)},
		told{"a product beyond", askMul(great, great), fault(api.ErrOver)},
		told{"W alone beyond", askMul(quatOf(0, 0x1p600, 0, 0), quatOf(0, 0x1p600, 0, 0)), fault(api.ErrOver)},
		told{"Y alone beyond", askMul(great, quatOf(0, 0, 0x1p600, 0)), fault(api.ErrOver)},
		told{"Z alone beyond", askMul(great, quatOf(0, 0, 0, -0x1p600)), fault(api.ErrOver)},
		told{"a sum beyond, though not the end", askMul(quatOf(most, most, most, most), quatOf(1, -1, 1, 1)), fault(api.ErrOver)},
		told{"falls to 0", askMul(little, little), isQuat(0, 0, 0, 0)},
		told{"Join", askJoin(quatOf(0, 5, 0, 0), quatOf(0, 0, 0.125, 0)), isQuat(0, 0, 0, 1)},
		told{"Join of a great and a little one", askJoin(great, little), isQuat(1, 0, 0, 0)},
		told{"Join, beyond", askJoin(great, great), fault(api.ErrOver)},
		told{"Join that falls to 0", askJoin(little, little), fault(api.ErrZero)},
		told{"Join with noughts", askJoin(none, a), fault(api.ErrZero)},
		told{"Join with noughts behind", askJoin(a, quatOf(minus, 0, 0, minus)), fault(api.ErrZero)},
	)
}

// P12.3: each product in its place; numbers on the way that aren't finite.
func TestCrossAndTurn(t *testing.T) {
	a, b := vec(2, 3, 5), vec(7, 11, 13)
	one, back := quatOf(1, 0, 0, 0), quatOf(minus, 1, 0, 0)
	hold(t,
		told{"six primes", askCross(a, b), isVec(-16, 9, 1)},
		told{"six primes, the other way", askCross(b, a), isVec(16, -9, -1)},
		told{"of one", askCross(a, a), isVec(0, 0, 0)},
		told{"noughts with a minus", askCross(vec(minus, minus, minus), vec(1, 1, 1)), isVec(0, 0, 0)},
		told{"noughts, a minus that stays", askCross(vec(0, minus, 0), vec(1, 0, 1)), isVec(minus, 0, 0)},
		told{"not fused", askCross(vec(0, 1+0x1p-30, 1), vec(0, 1+0x1p-29, 1+0x1p-30)), isVec(0, 0, 0)},
		told{"the last beyond", askCross(vec(0x1p600, 0, 0), vec(0, 0x1p600, 0)), fault(api.ErrOver)},
		told{"the first beyond", askCross(vec(0, 0, 0x1p600), vec(0, 0x1p600, 0)), fault(api.ErrOver)},
		told{"infinities that meet", askCross(vec(0, 0x1p600, 0x1p600), vec(0, 0x1p600, 0x1p600)), fault(api.ErrOver)},
		told{"a difference beyond", askCross(vec(0, most, 1), vec(0, -most, 1)), fault(api.ErrOver)},
		told{"Turn by nothing", askTurn(one, 1, -2, 3), isVec(1, -2, 3)},
		told{"Turn of noughts", askTurn(one, 0, minus, 0), isVec(0, 0, 0)},
		told{"Turn of noughts, a minus that stays", askTurn(quatOf(-1, 0, 0, 0), minus, 1, 0), isVec(0, 1, 0)},
		told{"a half turn", askTurn(back, 1, 2, 3), isVec(1, -2, -3)},
		told{"by a length of 2", askTurn(quatOf(1, 1, 1, 1), 1, 2, 3), isVec(9, -2, -1)},
		told{"four primes", askTurn(quatOf(2, 3, 5, 7), 1, 0, 0), isVec(-147, 58, 22)},
		told{"by noughts", askTurn(quatOf(0, 0, 0, 0), 1, 2, most), isVec(1, 2, most)},
		told{"the greatest, by nothing", askTurn(one, most, -most, most), isVec(most, -most, most)},
		told{"the greatest, by W beyond all", askTurn(quatOf(most, 0, 0, 0), most, -most, most), isVec(most, -most, most)},
		told{"the least", askTurn(back, least, -least, least), isVec(least, least, -least)},
		told{"W is 0, t infinite", askTurn(quatOf(0, 0x1p600, 0, 0), 0, 0x1p600, 0), fault(api.ErrOver)},
		told{"W is 0, t infinite as it is doubled", askTurn(quatOf(0, 1, 0, 0), 0, 0x1p1023, 0), fault(api.ErrOver)},
		told{"W is -0, t infinite", askTurn(quatOf(minus, 0, 0, 1), most, 0, 0), fault(api.ErrOver)},
		told{"just not infinite as it is doubled", askTurn(quatOf(0, 0.5, 0, 0), 0, 0x1p1023, 0), isVec(0, 0x1p1022, 0)},
		told{"u beyond", askTurn(quatOf(0, 0x1p500, 0, 0), 0, 0x1p100, 0), fault(api.ErrOver)},
		told{"W times t beyond", askTurn(quatOf(0x1p1000, 0x1p-100, 0, 0), 0, 0x1p200, 0), fault(api.ErrOver)},
		told{"the sum beyond", askTurn(quatOf(1, 0.25, 0, 0), 0, -most, most), fault(api.ErrOver)},
	)
}

// P12.4: each number of the matrix; what is beyond in one place alone.
func TestMatrix(t *testing.T) {
	hold(t,
		told{"nothing", askMatrix(1, 0, 0, 0), isMat(diagonal3(1, 1, 1))},
		told{"noughts", askMatrix(0, 0, 0, 0), isMat(diagonal3(1, 1, 1))},
		told{"a third of a turn", askMatrix(0.5, 0.5, 0.5, 0.5), isMat(the3(0, 0, 1, 1, 0, 0, 0, 1, 0))},
		told{"four primes", askMatrix(2, 3, 5, 7), isMat(the3(-147, 2, 62, 58, -115, 58, 22, 82, -67))},
		told{"signs of noughts", askMatrix(1, minus, 0, minus), isMat(the3(1, 0, 0, minus, 1, 0, 0, minus, 1))},
		told{"not fused", askMatrix(1+0x1p-29, 1+0x1p-30, 1+0x1p-30, 1), isMat(the3(-3-0x1p-28, 0, 4+0x1p-27, 4+0x1p-27, -3-0x1p-28, -0x1p-28, -0x1p-28, 4+0x1p-27, -3-0x1p-27))},
		told{"X alone beyond", askMatrix(0, 0x1p600, 0, 0), fault(api.ErrOver)},
		told{"Y alone beyond", askMatrix(0, 0, -0x1p600, 0), fault(api.ErrOver)},
		told{"Z alone beyond", askMatrix(0, 0, 0, 0x1p600), fault(api.ErrOver)},
		told{"W alone is in no square", askMatrix(0x1p600, 0, 0, 0), isMat(diagonal3(1, 1, 1))},
		told{"W times X beyond", askMatrix(0x1p1000, 0x1p100, 0, 0), fault(api.ErrOver)},
		told{"doubled beyond", askMatrix(0, 0x1p511, 0x1p511, 0), fault(api.ErrOver)},
		told{"just not beyond", askMatrix(0, 0x1p511, 0, 0), isMat(diagonal3(1, -0x1p1023, -0x1p1023))},
	)
}

// P12.4: each of the four ways, ties among t, a, b, c, what is beyond.
func TestFrom(t *testing.T) {
	h := half
	hold(t,
		told{"t", askFrom(0, 0, 1, 1, 0, 0, 0, 1, 0), isQuat(0.5, 0.5, 0.5, 0.5)},
		told{"t, the other signs", askFrom(0, 1, 0, 0, 0, 1, 1, 0, 0), isQuat(0.5, -0.5, -0.5, -0.5)},
		told{"t, each place", askFrom(1, 2, 3, 4, 1, 6, 7, 8, 1), askUnit(4, 2, -4, 2)},
		told{"a, each place", askFrom(9, 2, 3, 4, -1, 6, 7, 8, -3), askUnit(2, 14, 6, 10)},
		told{"b, each place", askFrom(-1, 2, 3, 4, 9, 6, 7, 8, -3), askUnit(-4, 6, 14, 14)},
		told{"c, each place", askFrom(-1, 2, 3, 4, -3, 6, 7, 8, 9), askUnit(2, 10, 14, 14)},
		told{"a half turn, a", askDiagonal(1, -1, -1), isQuat(0, 1, 0, 0)},
		told{"a half turn, b", askDiagonal(-1, 1, -1), isQuat(0, 0, 1, 0)},
		told{"a half turn, c", askDiagonal(-1, -1, 1), isQuat(0, 0, 0, 1)},
		told{"t and a", askFrom(1, 2, 0, 0, 0, 0, 0, 0, 0), isQuat(h, 0, 0, -h)},
		told{"t and b", askFrom(0, 2, 0, 0, 1, 0, 0, 0, 0), isQuat(h, 0, 0, -h)},
		told{"t and c", askFrom(0, 0, 0, 0, 0, 2, 0, 0, 1), isQuat(h, -h, 0, 0)},
		told{"t, a and b", askFrom(2, 4, 0, 0, 2, 0, 0, 0, -2), askUnit(3, 0, 0, -4)},
		told{"t, a, b and c", askFrom(minus, 1, 0, 0, minus, 0, 0, 0, minus), isQuat(h, 0, 0, -h)},
		told{"a and c below, by b", askFrom(-1, 1, 0, 0, 1, 0, 0, 0, -1), askUnit(0, 1, 4, 0)},
		told{"a and b, by a", askFrom(1, 0, 3, 0, 1, 0, 0, 0, -2), askUnit(0, 3, 0, 3)},
		told{"a and c, by a", askFrom(1, 3, 0, 0, -2, 0, 0, 0, 1), askUnit(0, 3, 3, 0)},
		told{"b and c, by b", askFrom(-2, 3, 0, 0, 1, 0, 0, 0, 1), askUnit(0, 3, 3, 0)},
		told{"b and c, the other", askFrom(-2, 0, 3, 0, 1, 0, 0, 0, 1), askUnit(3, 0, 3, 0)},
		told{"a, b and c", askFrom(-1, 2, 0, 0, -1, 0, 0, 0, -1), askUnit(0, 2, 2, 0)},
		told{"just a", askFrom(1+0x1p-52, 2, 0, 0, -1, 0, 0, 0, 1-0x1p-53), isQuat(0, h, h, 0)},
		told{"just c", askFrom(1-0x1p-53, 0, 3, 0, -1, 0, 0, 0, 1+0x1p-52), askUnit(0, 3, 0, 2)},
		told{"noughts of either sign", askFrom(1, 0, 0, minus, 1, 0, 0, minus, 1), isQuat(1, minus, 0, minus)},
		told{"t's order", askFrom(1, 0, 0, 5, 0x1p-53, 0, 0, 0, 0x1p-53), askUnit(2, 0, 0, 5)},
		told{"the greatest", askDiagonal(most, 0, minus), isQuat(1, 0, 0, 0)},
		told{"the least", askFrom(least, 0, 0, least, 0, 0, 0, 0, 0), isQuat(1, 0, 0, least)},
		told{"t beyond", askDiagonal(most, most, 0), fault(api.ErrOver)},
		told{"t beyond below", askDiagonal(-most, -most, 0), fault(api.ErrOver)},
		told{"t beyond on its way", askDiagonal(most, most, -most), fault(api.ErrOver)},
		told{"t beyond by the last", askDiagonal(0x1p1023, 0, 0x1p1023), fault(api.ErrOver)},
		told{"t, X beyond", askFrom(1, 0, 0, 0, 1, -most, 0, most, 1), fault(api.ErrOver)},
		told{"t, Y beyond", askFrom(1, 0, most, 0, 1, 0, -most, 0, 1), fault(api.ErrOver)},
		told{"t, Z beyond", askFrom(1, most, 0, -most, 1, 0, 0, 0, 1), fault(api.ErrOver)},
		told{"a, W beyond", askFrom(1, 0, 0, 0, -1, most, 0, -most, -1), fault(api.ErrOver)},
		told{"a, X beyond, t not", askDiagonal(most, -most, -0x1p1022), fault(api.ErrOver)},
		told{"a, Y beyond", askFrom(1, most, 0, most, -1, 0, 0, 0, -1), fault(api.ErrOver)},
		told{"a, Z beyond", askFrom(1, 0, most, 0, -1, 0, most, 0, -1), fault(api.ErrOver)},
		told{"b, Y beyond, t not", askDiagonal(-most, most, -0x1p1022), fault(api.ErrOver)},
		told{"b, Z beyond", askFrom(-1, 0, 0, 0, 1, -most, 0, -most, -1), fault(api.ErrOver)},
		told{"c, Z beyond, t not", askDiagonal(-most, -0x1p1000, most), fault(api.ErrOver)},
		told{"no number of the way taken is beyond", askFrom(1, 0, 0, 0, 1, most, 0, most, 1), isQuat(1, 0, 0, 0)},
	)
}

// P12.5: both ends; W of 0; a number that is beyond as it is doubled, though the end wouldn't be.
func TestCayleyAndGibbs(t *testing.T) {
	hold(t,
		told{"a quarter turn", askCayley(2, 0, 0), isQuat(half, half, 0, 0)},
		told{"signs", askCayley(minus, -1.5, 0), isQuat(0.8, minus, -0.6, 0)},
		told{"a small one", askCayley(0x1p-40, -0x1p-50, 0x1p-1000), isQuat(1, 0x1p-41, -0x1p-51, 0x1p-1001)},
		told{"the least, halved to 0", askCayley(least, -least, 0x3p-1074), isQuat(1, 0, minus, 0x2p-1074)},
		told{"the greatest", askCayley(most, 0, 0), isQuat(0x1p-1023, 1, 0, 0)},
		told{"three of the greatest", askCayley(most, -most, most), askUnit(1, most/2, -most/2, most/2)},
		told{"Gibbs", askGibbs(2, 1, 2, 4), isVec(1, 2, 4)},
		told{"Gibbs, signs", askGibbs(-4, 0, minus, 6), isVec(minus, 0, -3)},
		told{"W is 0", askGibbs(0, 1, 0, 0), fault(api.ErrZero)},
		told{"W is -0", askGibbs(minus, 0, 0, 0), fault(api.ErrZero)},
		told{"W is 0, the others beyond", askGibbs(0, most, most, most), fault(api.ErrZero)},
		told{"doubled beyond", askGibbs(most, most, 0, 0), fault(api.ErrOver)},
		told{"doubled beyond, the last", askGibbs(most, 0, 0, -0x1p1023), fault(api.ErrOver)},
		told{"just not beyond", askGibbs(0x1p1023, 0, 0x1p1022, 0), isVec(0, 1, 0)},
		told{"divided beyond", askGibbs(least, 0, 1, 0), fault(api.ErrOver)},
		told{"doubled ahead of being divided", askGibbs(4, least, 0, 0x3p-1074), isVec(0, 0, 0x2p-1074)},
		told{"three thirds", askGibbs(3, 1, 2, 3), isVec(0x1.5555555555555p-1, 0x1.5555555555555p0, 2)},
		told{"the least of both", askGibbs(least, least, -least, minus), isVec(2, -2, minus)},
	)
}

// P12.6: two that point the same way, two that are opposite, a or b all 0, lengths beyond what numbers hold.
func TestBetween(t *testing.T) {
	x, none, far := vec(1, 0, 0), vec(0, minus, 0), vec(most, -most, 0)
	hold(t,
		told{"a quarter turn", askBetween(x, vec(0, 7, 0)), isQuat(half, 0, 0, half)},
		told{"and back", askBetween(vec(0, 7, 0), x), isQuat(half, 0, 0, -half)},
		told{"the same", askBetween(vec(1, 2, 2), vec(1, 2, 2)), isQuat(1, 0, 0, 0)},
		told{"the same way", askBetween(vec(-3, 4, 12), vec(-0x3p-300, 0x4p-300, 0xcp-300)), isQuat(1, 0, 0, 0)},
		told{"the same way, both ends", askBetween(vec(0, 0, least), vec(0, 0, most)), isQuat(1, 0, 0, 0)},
		told{"opposite: x", askBetween(vec(-5, 0, 0), vec(1, 0, 0)), isQuat(0, 0, 0, -1)},
		told{"opposite: y", askBetween(vec(0, least, 0), vec(0, -most, 0)), isQuat(0, 0, 0, -1)},
		told{"opposite: z", askBetween(vec(0, 0, 2), vec(0, 0, -2)), isQuat(0, 0, 1, 0)},
		told{"opposite, least in z", askBetween(vec(3, 4, 0), vec(-3, -4, 0)), isQuat(0, 0.8, -0.6, 0)},
		told{"opposite, least in y", askBetween(vec(-4, 0, 3), vec(8, 0, -6)), isQuat(0, -0.6, 0, -0.8)},
		told{"opposite, least in x", askBetween(vec(0, 3, 4), vec(0, -3, -4)), isQuat(0, 0, 0.8, -0.6)},
		told{"opposite, but for a bit: the least is that of a", askBetween(vec(9, 9, 18), vec(-9, -9+0x1p-49, -18)), isQuat(0, 0, 0.894427190999916, -0.447213595499958)},
		told{"a is 0", askBetween(none, x), fault(api.ErrZero)},
		told{"b is 0", askBetween(x, none), fault(api.ErrZero)},
		told{"both are 0", askBetween(none, none), fault(api.ErrZero)},
		told{"a is 0, b's length beyond", askBetween(none, far), fault(api.ErrZero)},
		told{"b is 0, a's length beyond", askBetween(far, none), fault(api.ErrZero)},
		told{"a's length beyond", askBetween(far, x), fault(api.ErrOver)},
		told{"b's length beyond", askBetween(x, far), fault(api.ErrOver)},
		told{"both beyond, though their directions aren't", askBetween(far, far), fault(api.ErrOver)},
		told{"the greatest", askBetween(vec(0, most, 0), vec(most, 0, 0)), isQuat(half, 0, 0, -half)},
		told{"the least", askBetween(vec(0, 0, -least), vec(0, least, 0)), isQuat(half, half, minus, 0)},
		told{"1 + p is not 0", askBetween(vec(1, 1, 1), vec(-1, -1, -1)), isQuat(-1, 0, 0, 0)},
		told{"1 + p is 0, the cross product isn't", askBetween(vec(1, 0x1p-300, 0), vec(-1, 0, 0)), isQuat(0, 0, minus, 1)},
	)
}

// P12.6: the first place of the least amount, among two or three that are as little, is that about which the axis doesn't lean.
func TestLeastAmounts(t *testing.T) {
	for _, c := range []struct {
		a     api.Vec
		place int
	}{
		{vec(1, 3, 1), 0}, {vec(-1, 3, 1), 0}, {vec(1, -3, -1), 0}, {vec(1, 1, 3), 0}, {vec(-1, 1, -3), 0}, {vec(2, 2, 6), 0},
		{vec(3, 1, 1), 1}, {vec(-3, -1, 1), 1}, {vec(7, 1, -1), 1}, {vec(7, 4, 4), 1},
		{vec(0, minus, 1), 0}, {vec(1, minus, 0), 1}, {vec(minus, 5, 0), 0},
	} {
		back := vec(-c.a[0], -c.a[1], -c.a[2])
		q, err := quat.Between(c.a, back)
		axis := vec(q.X, q.Y, q.Z)
		if err != api.OK || !sameNumber(q.W, 0) || axis[c.place] != 0 || math.Abs(axis[0]*c.a[0]+axis[1]*c.a[1]+axis[2]*c.a[2]) > 0x1p-48 {
			t.Errorf("Between of %v and its opposite: %v, %d", c.a, q, err)
		}
		if other := (c.place + 1) % 3; c.a[other] != 0 && c.a[(c.place+2)%3] != 0 && (axis[other] == 0 || axis[(c.place+2)%3] == 0) {
			t.Errorf("Between of %v and its opposite: %v", c.a, q)
		}
	}
}

// P12.7: Dot that is 0, below 0, just so, or not finite.
func TestNearest(t *testing.T) {
	one, b := quatOf(1, 0, 0, 0), quatOf(-1, minus, 0, 5)
	hold(t,
		told{"above 0", askNearest(otherSigns(one), b), isQuat(-1, minus, 0, 5)},
		told{"below 0", askNearest(one, b), isQuat(1, 0, minus, -5)},
		told{"0", askNearest(quatOf(0, 1, 0, 0), b), isQuat(-1, minus, 0, 5)},
		told{"-0", askNearest(quatOf(0, 0, minus, minus), quatOf(-1, minus, 1, 1)), isQuat(-1, minus, 1, 1)},
		told{"falls to -0", askNearest(quatOf(0x1p-600, 0, 0, 0), quatOf(-0x1p-600, 0, 0, 0)), isQuat(-0x1p-600, 0, 0, 0)},
		told{"just below 0", askNearest(quatOf(1, 1, 0, 0), quatOf(1, -1-0x1p-52, 0, 0)), isQuat(-1, 1+0x1p-52, minus, minus)},
		told{"of noughts", askNearest(quatOf(0, 0, 0, 0), b), isQuat(-1, minus, 0, 5)},
		told{"infinite above", askNearest(quatOf(most, 0, 0, 0), quatOf(2, 0, 0, 0)), fault(api.ErrOver)},
		told{"infinite below", askNearest(quatOf(most, 0, 0, 0), quatOf(-2, 0, 0, 0)), fault(api.ErrOver)},
		told{"no number", askNearest(quatOf(most, most, 0, 0), quatOf(-2, 2, 0, 0)), fault(api.ErrOver)},
		told{"the greatest", askNearest(quatOf(0.25, 0, 0, 0), quatOf(-most, most, least, 0)), isQuat(most, -most, -least, minus)},
	)
}

// P12.7: t of 0, of 1, beyond both, of neither sign; what falls to 0, what is beyond.
func TestMix(t *testing.T) {
	a, b := quatOf(3, 4, minus, 0), quatOf(0, -5, minus, 0)
	one := quatOf(1, 0, 0, 0)
	hold(t,
		told{"0", askMix(a, b, 0), isQuat(0.6, 0.8, 0, 0)},
		told{"-0", askMix(a, b, minus), isQuat(0.6, 0.8, minus, 0)},
		told{"1", askMix(a, b, 1), isQuat(0, 1, 0, 0)},
		told{"1, no other sign", askMix(b, quatOf(0, -1, 2, 2), 1), askUnit(0, -1, 2, 2)},
		told{"a half", askMix(one, quatOf(0, 1, 0, 0), 0.5), isQuat(half, half, 0, 0)},
		told{"a half, the other sign", askMix(one, quatOf(-1, 1, 0, 0), 0.5), askUnit(2, -1, 0, 0)},
		told{"2", askMix(one, quatOf(0, 2, 0, 0), 2), askUnit(-1, 4, 0, 0)},
		told{"-1", askMix(one, quatOf(0, 2, 0, 0), -1), askUnit(2, -2, 0, 0)},
		told{"noughts", askMix(quatOf(0, 0, 0, 0), quatOf(0, minus, 0, 0), 0.5), fault(api.ErrZero)},
		told{"1 - t is rounded, and all falls to 0", askMix(one, one, 0x1p60), fault(api.ErrZero)},
		told{"1 - t is rounded", askMix(one, quatOf(1, 1, 0, 0), 0x1p-60), isQuat(1, 0x1p-60, 0, 0)},
		told{"a's of 0, t of 0", askMix(quatOf(0, 0, 0, 0), one, 0), fault(api.ErrZero)},
		told{"b's of 0, t of 1", askMix(one, quatOf(0, 0, 0, 0), 1), fault(api.ErrZero)},
		told{"Dot beyond", askMix(quatOf(0x1p600, 0, 0, 0), quatOf(0x1p600, 0, 0, 0), 0.5), fault(api.ErrOver)},
		told{"1 - t is rounded at the end of numbers", askMix(one, one, most), fault(api.ErrZero)},
		told{"a product beyond, by a", askMix(quatOf(4, 0, 0, 0), quatOf(0, 1, 0, 0), most), fault(api.ErrOver)},
		told{"a product beyond, by b", askMix(quatOf(1, 0, 0, 0), quatOf(0, 4, 0, 0), most), fault(api.ErrOver)},
		told{"a sum beyond", askMix(quatOf(-1, 1, 0, 0), quatOf(0.5, 1, 0, 0), most), fault(api.ErrOver)},
		told{"just not beyond", askMix(quatOf(-0.75, 0, 0, 0), quatOf(0, 0, 0, 0), -most), isQuat(-1, 0, 0, 0)},
		told{"great ones", askMix(quatOf(0x1p1023, 0, 0, 0), quatOf(0, 0x1p1023, 0, 0), 0.5), isQuat(half, half, 0, 0)},
	)
}

// P12.7: of one, of opposite ones, of those a half turn apart; what isn't asked for, but is beyond.
func TestApart(t *testing.T) {
	one := quatOf(1, 0, 0, 0)
	hold(t,
		told{"of one", askApart(one, one), isNumber(0)},
		told{"of other signs", askApart(one, otherSigns(one)), isNumber(0)},
		told{"a half turn", askApart(one, quatOf(0, 0, 0.6, 0.8)), isNumber(1)},
		told{"i and j", askApart(quatOf(0, 1, 0, 0), quatOf(0, 0, 1, 0)), isNumber(1)},
		told{"3, 4", askApart(one, quatOf(12, 3, 0, -4)), isNumber(5)},
		told{"the first is turned back", askApart(quatOf(0, 0, 3, 0), quatOf(0, 0, 0, 4)), isNumber(12)},
		told{"noughts", askApart(quatOf(0, 0, 0, 0), one), isNumber(0)},
		told{"the least", askApart(one, quatOf(0, 0x3p-1074, 0, 0x4p-1074)), isNumber(0x5p-1074)},
		told{"W alone beyond", askApart(quatOf(0x1p600, 0, 0, 0), quatOf(0x1p600, 0, 0, 0)), fault(api.ErrOver)},
		told{"X alone beyond", askApart(quatOf(0x1p600, 0, 0, 0), quatOf(0, 0x1p600, 0, 0)), fault(api.ErrOver)},
		told{"the length alone beyond", askApart(one, quatOf(0, most, most, 0)), fault(api.ErrOver)},
		told{"just not beyond", askApart(one, quatOf(0, most, 0, 1)), isNumber(most)},
	)
}

// P12.7: just within and just beyond 2^-48, taken exactly.
func TestGood(t *testing.T) {
	// The squares of these whole numbers make 2^48 - 1.
	a, b, c, d := 0x1p-24*16777215, 0x1p-24*5791, 0x1p-24*130, 0x1p-24*43
	up := func(x float64) float64 { return math.Nextafter(x, 2) }
	down := func(x float64) float64 { return math.Nextafter(x, 0) }
	for _, e := range []struct {
		q    api.Quat
		good bool
	}{
		{quatOf(1, 0, 0, 0), true}, {quatOf(minus, 0, -1, minus), true}, {quatOf(0.5, -0.5, 0.5, -0.5), true}, {quatOf(0.6, 0, 0, 0.8), true},
		{quatOf(0, 0, 0, 0), false}, {quatOf(2, 0, 0, 0), false}, {quatOf(1, 1, 0, 0), false}, {quatOf(0.5, 0.5, 0.5, 0), false}, {quatOf(1.0001, 0, 0, 0), false},
		{quatOf(1, 0x1p-24, 0, 0), true}, {quatOf(0, -1, 0, -0x1p-24), true}, {quatOf(0x1p-24, 0, 1, 0), true},
		{quatOf(1, up(0x1p-24), 0, 0), false}, {quatOf(1, down(0x1p-24), 0, 0), true}, {quatOf(1, 0x1p-24, least, 0), false}, {quatOf(1, 0x1p-24, 0, -least), false}, {quatOf(least, 0x1p-24, 0, 1), false}, {quatOf(1, down(0x1p-24), least, 0), true}, {quatOf(1, down(0x1p-24), 0x1p-51, 0), true}, {quatOf(1, down(0x1p-24), 0x1p-50, 0), false},
		{quatOf(1, 0x1p-24, 0x1p-80, 0), false}, {quatOf(1, 0x1.6a09e667f3bccp-25, 0x1.6a09e667f3bccp-25, 0), true}, {quatOf(1, 0x1.6a09e667f3bcdp-25, 0x1.6a09e667f3bcdp-25, 0), false},
		{quatOf(a, b, c, d), true}, {quatOf(-d, c, -b, a), true}, {quatOf(a, b, c, down(d)), false}, {quatOf(a, b, down(c), d), false}, {quatOf(a, down(b), c, d), false}, {quatOf(down(a), b, c, d), false},
		{quatOf(a, b, c, up(d)), true}, {quatOf(up(a), b, c, d), true}, {quatOf(up(a), down(b), c, d), true}, {quatOf(a, b, up(c), down(d)), true}, {quatOf(a, b, down(c), up(d)), false},
		{quatOf(1+0x7p-52, 0, 0, 0), true}, {quatOf(1+0x8p-52, 0, 0, 0), false}, {quatOf(1-0x10p-53, 0, 0, 0), true}, {quatOf(1-0x11p-53, 0, 0, 0), false},
		{quatOf(most, most, most, most), false}, {quatOf(least, least, least, least), false}, {quatOf(1, most, 0, 0), false}, {quatOf(1, least, -least, least), true},
	} {
		if quat.Good(e.q) != e.good || wordsOfGood(e.q) != e.good {
			t.Errorf("Good of %x: %v, by the words %v", e.q, quat.Good(e.q), wordsOfGood(e.q))
		}
	}
	for _, x := range unfit() {
		for place := range 4 {
			l := list(1, 0, 0, 0)
			l[place] = x
			if quat.Good(quatFrom(l)) {
				t.Errorf("Good of %x", l)
			}
		}
	}
}
