package qr_test

import (
	"math"
	"slices"
	"testing"

	"binnacle/api"
)

// told is a case: what was answered, and what should have been.
type told struct {
	what      string
	got, want answer
}

func hold(t *testing.T, cases ...told) {
	t.Helper()
	for _, c := range cases {
		if !c.got.is(c.want) {
			t.Errorf("%s: %+v, not %+v", c.what, c.got, c.want)
		}
	}
}

func isNumber(x float64) answer { return answer{a: x} }

func isTurn(c, s, r float64) answer { return answer{a: c, b: s, c: r} }

func isMirror(w, alpha float64, v ...float64) answer { return answer{list: v, a: w, b: alpha} }

func isMat(m api.Mat) answer { return answer{m: m} }

func isPair(q, r api.Mat) answer { return answer{m: q, r: r} }

func isFew(x ...float64) answer { return answer{list: x} }

const root2 = 0x1.6a09e667f3bcdp+0

// The chapter's examples, as they stand.
func TestExamples(t *testing.T) {
	hold(t,
		told{"1: Length", askLength(3, 4), isNumber(5)},
		told{"1: Length, great", askLength(0x1p1000, 0x1p1000), isNumber(0x1.6a09e667f3bcdp+1000)},
		told{"1: Length, the least", askLength(least), isNumber(least)},
		told{"1: Length, beyond", askLength(most, most), fault(api.ErrOver)},
		told{"2: Givens", askGivens(3, 4), isTurn(0.6, 0.8, 5)},
		told{"2: Givens of 0", askGivens(0, -2), isTurn(0, 1, -2)},
		told{"2: House", askHouse(3, 4), isMirror(2.5, -5, 2, 1)},
		told{"3: Triangle", askTriangle(mat(1, 2, 3, 4)), isMat(mat(1, 1, 5))},
		told{"3: Triangle of one", askTriangle(mat(2, 2, 1, 0, 1, 1)), isMat(mat(2, 2, 1, 0, 1, 1))},
		told{"3: Triangle of noughts", askTriangle(mat(1, 2, 0, 0)), isMat(mat(1, 1, 0))},
		told{"3: QR", askQR(mat(2, 1, 3, 4)), isPair(mat(2, 1, 0.6+0x1p-53, 0.8), mat(1, 1, 5))},
		told{"4: Least, no rank", askLeast(mat(1, 1, 0), 1), fault(api.ErrRank)},
	)
	if got := askLeast(mat(2, 1, 1, 1), 1, 3); got.err != api.OK || len(got.list) != 1 || math.Abs(got.list[0]-2) > 0x1p-49 {
		t.Errorf("4: Least: %+v", got)
	}
}

// P10.1: nothing, noughts, one number, signs, both ends of the powers, both ends in one list.
func TestLength(t *testing.T) {
	hold(t,
		told{"none", askLength(), isNumber(0)},
		told{"+0", askLength(0), isNumber(0)},
		told{"-0", askLength(minus), isNumber(0)},
		told{"noughts", askLength(minus, 0, minus, minus), isNumber(0)},
		told{"48 noughts", askLength(repeated(minus, 48)...), isNumber(0)},
		told{"one", askLength(-7), isNumber(7)},
		told{"signs", askLength(-3, minus, 4), isNumber(5)},
		told{"48", askLength(repeated(-1, 48)...), isNumber(0x1.bb67ae8584caap+2)},
		told{"the greatest", askLength(most), isNumber(most)},
		told{"the greatest below 0, and noughts", askLength(0, -most, minus), isNumber(most)},
		told{"both ends", askLength(least, most, -least), isNumber(most)},
		told{"just not beyond", askLength(most, 0x1p997), isNumber(most)},
		told{"just beyond", askLength(most, 0x1p998), fault(api.ErrOver)},
		told{"beyond by many", askLength(repeated(0x1p1022, 16)...), fault(api.ErrOver)},
		told{"not yet by many", askLength(repeated(0x1p1021, 8)...), isNumber(0x1.6a09e667f3bcdp+1022)},
		told{"subnormals", askLength(0x3p-1074, -0x4p-1074), isNumber(0x5p-1074)},
		told{"subnormals, rounded down", askLength(least, least), isNumber(least)},
		told{"subnormals, rounded up", askLength(least, least, -least), isNumber(0x2p-1074)},
		told{"48 subnormals", askLength(repeated(least, 48)...), isNumber(0x7p-1074)},
		told{"the last power that isn't subnormal", askLength(0x1p-1022, 0x1p-1022), isNumber(root2 * 0x1p-1022)},
		told{"across the subnormals", askLength(0x1p-1022, least), isNumber(0x1p-1022)},
		told{"squares that fall to 0", askLength(1, 0x1p-540, 0x1p-540), isNumber(1)},
		told{"in order", askLength(1, 0x1p-27, 0x1p-27), isNumber(1)},
		told{"in another order", askLength(0x1p-27, 0x1p-27, 1), isNumber(1)},
		told{"the sum in order", askLength(append(list(1), repeated(0x1p-27, 47)...)...), isNumber(1)},
		told{"the sum in another order", askLength(append(repeated(0x1p-27, 47), 1)...), isNumber(1 + 0x6p-52)},
	)
}

// MaxWide, and one more.
func TestMaxWide(t *testing.T) {
	row := func(n int) api.Mat { return mat(1, n, repeated(1, n)...) }
	one := slices.Repeat(mats(row(1)), 49)
	length := 0x1.bb67ae8584caap+2
	hold(t,
		told{"Length of 49", askLength(repeated(1, 49)...), fault(api.ErrRange)},
		told{"Length of 49 noughts", askLength(make([]float64, 49)...), fault(api.ErrRange)},
		told{"Length of many", askLength(make([]float64, 5000)...), fault(api.ErrRange)},
		told{"House of 49", askHouse(repeated(1, 49)...), fault(api.ErrRange)},
		told{"House of 49 noughts", askHouse(make([]float64, 49)...), fault(api.ErrRange)},
		told{"House of 48 noughts", askHouse(repeated(minus, 48)...), isMirror(0, 0, make([]float64, 48)...)},
		told{"Triangle of 48 columns", askTriangle(row(12), row(12), row(12), row(12)), isMat(mat(1, 1, length))},
		told{"Triangle of 48 columns, and none behind", askTriangle(row(12), row(12), mat(1, 0), row(12), row(12), mat(1, 0)), isMat(mat(1, 1, length))},
		told{"Triangle of 49 columns", askTriangle(row(12), row(12), row(12), row(12), row(1)), fault(api.ErrLong)},
		told{"Triangle of 49 columns, the last great", askTriangle(row(12), row(12), row(1), row(12), row(12)), fault(api.ErrLong)},
		told{"Triangle of 48 by ones", askTriangle(one[:48]...), isMat(mat(1, 1, length))},
		told{"Triangle of 49 by ones", askTriangle(one...), fault(api.ErrLong)},
		told{"Triangle of 60 columns without rows", askTriangle(slices.Repeat(mats(mat(0, 12)), 5)...), fault(api.ErrLong)},
		told{"Triangle of 48 columns without rows", askTriangle(slices.Repeat(mats(mat(0, 12)), 4)...), isMat(mat(0, 0))},
		told{"Least, a list of 49", askLeast(mat(1, 1, 1), repeated(1, 49)...), fault(api.ErrRange)},
		told{"Least, a list of 48", askLeast(mat(1, 1, 1), repeated(1, 48)...), fault(api.ErrShape)},
		told{"Least, a list of 13", askLeast(eye(12), repeated(1, 13)...), fault(api.ErrShape)},
	)
	if got := askHouse(repeated(-1, 48)...); got.err != api.OK || len(got.list) != 48 || got.b != length {
		t.Errorf("House of 48: %+v", got)
	}
}

// P10.2: a 0 of either sign in either place, signs, both ends.
func TestGivens(t *testing.T) {
	hold(t,
		told{"b is +0", askGivens(5, 0), isTurn(1, 0, 5)},
		told{"b is -0", askGivens(5, minus), isTurn(1, 0, 5)},
		told{"b is +0, a below 0", askGivens(-5, 0), isTurn(1, 0, -5)},
		told{"b is -0, a below 0", askGivens(-least, minus), isTurn(1, 0, -least)},
		told{"+0, +0", askGivens(0, 0), isTurn(1, 0, 0)},
		told{"-0, +0", askGivens(minus, 0), isTurn(1, 0, minus)},
		told{"+0, -0", askGivens(0, minus), isTurn(1, 0, 0)},
		told{"-0, -0", askGivens(minus, minus), isTurn(1, 0, minus)},
		told{"a is +0", askGivens(0, 3), isTurn(0, 1, 3)},
		told{"a is -0", askGivens(minus, 3), isTurn(0, 1, 3)},
		told{"a is -0, b below 0", askGivens(minus, -most), isTurn(0, 1, -most)},
		told{"a below 0", askGivens(-3, 4), isTurn(-0.6, 0.8, 5)},
		told{"b below 0", askGivens(3, -4), isTurn(0.6, -0.8, 5)},
		told{"both below 0", askGivens(-3, -4), isTurn(-0.6, -0.8, 5)},
		told{"the greatest alone", askGivens(most, minus), isTurn(1, 0, most)},
		told{"beyond", askGivens(most, most), fault(api.ErrOver)},
		told{"beyond below 0", askGivens(-0x1p1023, 0x1.fp1023), fault(api.ErrOver)},
		told{"just not", askGivens(most, -0x1p997), isTurn(1, -(0x1p-27 + 0x1p-79), most)},
		told{"both ends", askGivens(most, least), isTurn(1, 0, most)},
		told{"both ends, below 0", askGivens(-least, most), isTurn(minus, 1, most)},
		told{"the least ones", askGivens(least, -least), isTurn(1, -1, least)},
		told{"subnormals", askGivens(0x3p-1074, 0x4p-1074), isTurn(0.6, 0.8, 0x5p-1074)},
	)
	for _, x := range unfit() {
		hold(t,
			told{"not finite, beside 0", askGivens(x, 0), fault(api.ErrNumber)}, told{"not finite, beside -0", askGivens(minus, x), fault(api.ErrNumber)},
			told{"not finite, the first", askGivens(x, most), fault(api.ErrNumber)}, told{"not finite, the second", askGivens(1, x), fault(api.ErrNumber)}, told{"not finite, both", askGivens(x, x), fault(api.ErrNumber)},
		)
	}
}

// P10.2: rows in either order, what stays, noughts, matrices without columns.
func TestRotate(t *testing.T) {
	m := mat(3, 2, 1, 2, minus, 20, 5, 6)
	hold(t,
		told{"0 and 2", askRotate(m, 0, 2, 2, 3), isMat(mat(3, 2, 17, 22, minus, 20, 7, 6))},
		told{"2 and 0", askRotate(m, 2, 0, 2, 3), isMat(mat(3, 2, -13, -14, minus, 20, 13, 18))},
		told{"0 and 1", askRotate(m, 0, 1, 2, 3), isMat(mat(3, 2, 2, 64, -3, 34, 5, 6))},
		told{"by 1 and 0", askRotate(mat(2, 2, minus, 1, 1, minus), 0, 1, 1, 0), isMat(mat(2, 2, 0, 1, 1, minus))},
		told{"by 1 and -0", askRotate(mat(2, 2, minus, 1, 1, minus), 0, 1, 1, minus), isMat(mat(2, 2, minus, 1, 1, 0))},
		told{"by noughts", askRotate(mat(2, 1, -1, -1), 0, 1, 0, 0), isMat(mat(2, 1, minus, 0))},
		told{"below what numbers hold", askRotate(mat(2, 1, -least, least), 0, 1, 0.5, 0.25), isMat(mat(2, 1, 0, 0))},
		told{"no columns", askRotate(mat(2, 0), 0, 1, 2, 3), isMat(mat(2, 0))},
		told{"no columns, 12 rows", askRotate(mat(12, 0), 11, 0, 2, 3), isMat(mat(12, 0))},
		told{"a product beyond", askRotate(mat(2, 1, most, 0), 0, 1, 2, 0), fault(api.ErrOver)},
		told{"a product beyond in the row k alone", askRotate(mat(2, 2, 1, 0, 1, -most), 0, 1, 2, 0), fault(api.ErrOver)},
		told{"products beyond against one another", askRotate(mat(2, 1, most, -most), 0, 1, 2, 2), fault(api.ErrOver)},
		told{"a sum beyond", askRotate(mat(2, 1, most, most), 0, 1, 1, 1), fault(api.ErrOver)},
		told{"a difference beyond", askRotate(mat(2, 1, -most, most), 0, 1, 1, 1), fault(api.ErrOver)},
		told{"just not", askRotate(mat(2, 1, most, most), 0, 1, 0.5, 0.5), isMat(mat(2, 1, most, 0))},
	)
}

// P10.3: the first number +0, -0, below 0; nothing; noughts; powers; numbers that fall to 0 and keep their sign.
func TestHouse(t *testing.T) {
	hold(t,
		told{"none", askHouse(), isMirror(0, 0)},
		told{"-0", askHouse(minus), isMirror(0, 0, 0)},
		told{"noughts", askHouse(minus, 0, minus), isMirror(0, 0, 0, 0, 0)},
		told{"one", askHouse(5), isMirror(3.125, -5, 2.5)},
		told{"one below 0", askHouse(-5), isMirror(3.125, 5, -2.5)},
		told{"first +0", askHouse(0, 3), isMirror(2.25, -3, 1.5, 1.5)},
		told{"first -0", askHouse(minus, 3), isMirror(2.25, 3, -1.5, 1.5)},
		told{"first below 0", askHouse(-3, 4), isMirror(2.5, 5, -2, 1)},
		told{"-0 behind", askHouse(3, minus, 4), isMirror(2.5, -5, 2, minus, 1)},
		told{"first falls to +0", askHouse(0x1p-75, 0x1p1000), isMirror(1, -0x1p1000, 1, 1)},
		told{"first falls to -0", askHouse(-0x1p-75, 0x1p1000), isMirror(1, 0x1p1000, -1, 1)},
		told{"rounded once, to even", askHouse(0x1p1000, 0x3p-75, 0x1p-75, -0x1p-75), isMirror(2, -0x1p1000, 2, 0x2p-1074, 0, minus)},
		told{"rounded once, not by halves", askHouse(0x1p1000, 0x7p-76), isMirror(2, -0x1p1000, 2, 0x2p-1074)},
		told{"the least", askHouse(least), isMirror(2, -least, 2)},
		told{"subnormals", askHouse(0x3p-1074, 0x4p-1074), isMirror(2.5, -0x5p-1074, 2, 1)},
		told{"alpha rounded", askHouse(least, least), isMirror(0x1.b504f333f9de6p+1, -least, 0x1.3504f333f9de6p+1, 1)},
		told{"the greatest", askHouse(most), isMirror(8-0x1p-49, -most, 4-0x1p-51)},
		told{"the greatest below 0", askHouse(-most), isMirror(8-0x1p-49, most, -(4 - 0x1p-51))},
		told{"both ends", askHouse(-most, least), isMirror(8-0x1p-49, most, -(4 - 0x1p-51), 0)},
		told{"beyond", askHouse(most, most), fault(api.ErrOver)},
		told{"just beyond", askHouse(0x1p998, most), fault(api.ErrOver)},
		told{"just beyond, below 0", askHouse(-most, 0x1p998), fault(api.ErrOver)},
	)
}

// P10.4: no rows, no columns, fewer columns than rows, rows that hang together, noughts of either sign, diagonals below 0 and at 0.
func TestTriangle(t *testing.T) {
	nothing := mat(12, 12, make([]float64, 144)...)
	hold(t,
		told{"no rows", askTriangle(mat(0, 0)), isMat(mat(0, 0))},
		told{"no rows, columns", askTriangle(mat(0, 5), mat(0, 0), mat(0, 12)), isMat(mat(0, 0))},
		told{"no columns", askTriangle(mat(2, 0)), isMat(mat(2, 2, 0, 0, 0, 0))},
		told{"no columns, often", askTriangle(slices.Repeat(mats(mat(12, 0)), 1000)...), isMat(nothing)},
		told{"one column", askTriangle(mat(2, 1, 3, 4)), isMat(mat(2, 2, 3, 0, 4, 0))},
		told{"one column among none", askTriangle(mat(2, 0), mat(2, 1, -3, 4), mat(2, 0)), isMat(mat(2, 2, 3, 0, -4, 0))},
		told{"two columns of three", askTriangle(mat(3, 2, 2, 0, 6, 1, -2, 4)), isMat(mat(3, 3, 2, 0, 0, 6, 1, 0, -2, 4, 0))},
		told{"in their order", askTriangle(mat(2, 1, 1, 0), mat(2, 1, 0, -2)), isMat(mat(2, 2, 1, 0, 0, 2))},
		told{"in the other order", askTriangle(mat(2, 1, 0, -2), mat(2, 1, 1, 0)), isMat(mat(2, 2, 1, 0, 0, 2))},
		told{"rows that hang together", askTriangle(mat(2, 2, 3, 4, 6, 8)), isMat(mat(2, 2, 5, 0, 10, 0))},
		told{"rows that hang together, against one another", askTriangle(mat(2, 2, 3, 4, -6, -8)), isMat(mat(2, 2, 5, 0, -10, 0))},
		told{"a row of noughts first", askTriangle(mat(2, 2, minus, 0, -3, -4)), isMat(mat(2, 2, 0, 0, -3, 4))},
		told{"a row of noughts in between", askTriangle(mat(3, 3, -2, 0, 0, 0, minus, 0, 6, 1, -5)), isMat(mat(3, 3, 2, 0, 0, 0, 0, 0, -6, 1, 5))},
		told{"a row of noughts last", askTriangle(mat(2, 2, 2, 0, minus, minus)), isMat(mat(2, 2, 2, 0, 0, 0))},
		told{"a number below 0 on the diagonal", askTriangle(mat(2, 2, -2, 0, -6, 1)), isMat(mat(2, 2, 2, 0, 6, 1))},
		told{"a number below 0 beside it", askTriangle(mat(2, 2, 2, 0, -6, 1)), isMat(mat(2, 2, 2, 0, -6, 1))},
		told{"noughts below the diagonal", askTriangle(mat(2, 2, 1, 0, minus, 1)), isMat(mat(2, 2, 1, 0, 0, 1))},
		told{"noughts in a column that is turned", askTriangle(mat(2, 2, -1, 0, 0, -1)), isMat(mat(2, 2, 1, 0, 0, 1))},
		told{"noughts of either sign alone", askTriangle(mat(2, 3, 0, minus, 0, minus, minus, 0)), isMat(mat(2, 2, 0, 0, 0, 0))},
		told{"the greatest alone", askTriangle(mat(1, 1, -most)), isMat(mat(1, 1, most))},
		told{"the least alone", askTriangle(mat(1, 2, minus, -least)), isMat(mat(1, 1, least))},
		told{"subnormals, as the steps round them", askTriangle(mat(2, 2, 1.5, 0, least, least)), isMat(mat(2, 2, 1.5, 0, 0x2p-1074, least))},
		told{"12 rows", askTriangle(eye(12)), isMat(eye(12))},
		told{"12 rows, 48 columns", askTriangle(eye(12), eye(12), eye(12), eye(12)), isMat(diagonal(repeated(2, 12)...))},
	)
}

// P10.5: no rows, no columns, one number, unit matrices, noughts, columns that hang together.
func TestQR(t *testing.T) {
	none := mat(0, 0)
	hold(t,
		told{"nothing", askQR(none), isPair(none, none)},
		told{"no columns", askQR(mat(3, 0)), isPair(mat(3, 0), none)},
		told{"no columns, 12 rows", askQR(mat(12, 0)), isPair(mat(12, 0), none)},
		told{"one above 0", askQR(mat(1, 1, 2)), isPair(mat(1, 1, 1), mat(1, 1, 2))},
		told{"one below 0", askQR(mat(1, 1, -2)), isPair(mat(1, 1, -1), mat(1, 1, 2))},
		told{"one -0", askQR(mat(1, 1, minus)), isPair(mat(1, 1, 1), mat(1, 1, 0))},
		told{"the greatest", askQR(mat(1, 1, -most)), isPair(mat(1, 1, -1), mat(1, 1, most))},
		told{"unit", askQR(eye(2)), isPair(eye(2), eye(2))},
		told{"unit of 12 rows", askQR(eye(12)), isPair(eye(12), eye(12))},
		told{"signs", askQR(diagonal(-2, 3, -4)), isPair(diagonal(-1, 1, -1), diagonal(2, 3, 4))},
		told{"noughts", askQR(mat(2, 2, 0, minus, minus, 0)), isPair(eye(2), mat(2, 2, 0, 0, 0, 0))},
		told{"noughts, more rows", askQR(mat(3, 2, 0, minus, minus, 0, 0, 0)), isPair(mat(3, 2, 1, 0, 0, 1, 0, 0), mat(2, 2, 0, 0, 0, 0))},
		told{"a column of noughts first", askQR(mat(2, 2, minus, -3, 0, 4)), isPair(eye(2), mat(2, 2, 0, -3, 0, 4))},
		told{"a column of noughts last", askQR(mat(2, 2, 2, 0, 0, minus)), isPair(eye(2), mat(2, 2, 2, 0, 0, 0))},
		told{"upper already", askQR(mat(2, 2, 2, -6, 0, 1)), isPair(eye(2), mat(2, 2, 2, -6, 0, 1))},
		told{"upper already, below 0", askQR(mat(2, 2, -2, -6, 0, 1)), isPair(diagonal(-1, 1), mat(2, 2, 2, 6, 0, 1))},
		told{"exchanged", askQR(mat(2, 2, 0, 1, 1, 0)), isPair(mat(2, 2, 0, 1, 1, 0), eye(2))},
		told{"columns that hang together", askQR(mat(2, 2, 3, 6, 4, 8)), isPair(mat(2, 2, 0.6+0x1p-53, -0.8, 0.8, 0.6), mat(2, 2, 5, 10, 0, 0))},
		told{"beyond", askQR(mat(2, 1, most, most)), fault(api.ErrOver)},
	)
}

// P10.6: nothing, columns that hang together, the signs of noughts.
func TestLeast(t *testing.T) {
	hold(t,
		told{"nothing", askLeast(mat(0, 0)), isFew()},
		told{"no columns", askLeast(mat(3, 0), 1, 2, 3), isFew()},
		told{"one", askLeast(mat(1, 1, -2), 6), isFew(-3)},
		told{"unit", askLeast(eye(3), 1, -2, 3), isFew(1, -2, 3)},
		told{"unit of 12 rows", askLeast(eye(12), repeated(7, 12)...), isFew(repeated(7, 12)...)},
		told{"more rows", askLeast(mat(3, 2, 1, 0, 0, 1, 0, 0), 5, 6, 7), isFew(5, 6)},
		told{"from the last on", askLeast(mat(2, 2, 2, 4, 0, 0.5), 8, 1), isFew(0, 2)},
		told{"the sum in order", askLeast(mat(3, 3, 1, 1, 0x1p100, 0, 1, 0, 0, 0, 1), 0x1p100, 1, 1), isFew(0, 1, 1)},
		told{"+0 of -0", askLeast(eye(2), 1, minus), isFew(1, 0)},
		told{"sums that begin with +0", askLeast(mat(2, 2, 1, -least, 0, 1), minus, -0.25), isFew(0, -0.25)},
		told{"-0 of what falls to it", askLeast(mat(1, 1, 4), -least), isFew(minus)},
		told{"no rank: 0", askLeast(mat(1, 1, 0), 1), fault(api.ErrRank)},
		told{"no rank: -0", askLeast(mat(1, 1, minus), 0), fault(api.ErrRank)},
		told{"no rank: the first column", askLeast(mat(2, 2, 0, 1, 0, 1), 1, 1), fault(api.ErrRank)},
		told{"no rank: the last column", askLeast(mat(3, 2, 1, 0, 0, 0, 0, minus), 1, 1, 1), fault(api.ErrRank)},
		told{"no rank: a column twice", askLeast(mat(2, 2, 3, 3, 4, 4), 1, 1), fault(api.ErrRank)},
		told{"no rank: a column, doubled", askLeast(mat(2, 2, 3, 6, 4, 8), 1, 1), fault(api.ErrRank)},
		told{"no rank, ahead of what is beyond", askLeast(mat(2, 2, least, 0, 0, 0), most, most), fault(api.ErrRank)},
		told{"no rank, behind what is beyond in QR", askLeast(mat(3, 2, 0, most, 0, most, 0, most), 1, 1, 1), fault(api.ErrOver)},
	)
}

// Products that would show if they were joined with a sum or a difference.
func TestNotFused(t *testing.T) {
	near, nearSquare := 1+0x1p-30, 1+0x1p-29
	hold(t,
		told{"Rotate, the row i", askRotate(mat(2, 1, near, -nearSquare), 0, 1, near, 1), isMat(mat(2, 1, 0, float64(near*-nearSquare)-near))},
		told{"Rotate, the row i, the other product", askRotate(mat(2, 1, -nearSquare, near), 0, 1, 1, near), isMat(mat(2, 1, 0, near-float64(near*-nearSquare)))},
		told{"Rotate, the row k", askRotate(mat(2, 1, nearSquare, near), 0, 1, near, 1), isMat(mat(2, 1, float64(near*nearSquare)+near, 0))},
		told{"Rotate, the row k, the other product", askRotate(mat(2, 1, near, nearSquare), 0, 1, 1, near), isMat(mat(2, 1, near+float64(near*nearSquare), 0))},
		told{"Least, the sum", askLeast(mat(2, 2, 1, near, 0, 1), nearSquare, near), isFew(0, near)},
	)
}

// Steps beyond what numbers hold where the end would be finite again, and where they just aren't.
func TestBeyond(t *testing.T) {
	over := fault(api.ErrOver)
	hold(t,
		told{"Triangle, a length", askTriangle(mat(1, 1, most), mat(1, 1, most)), over},
		told{"Triangle, a product with v", askTriangle(mat(2, 2, 1, 0, most, 0)), over},
		told{"Triangle, just not", askTriangle(mat(2, 2, 1, 0, 0x1p1022, 0)), isMat(mat(2, 2, 1, 0, 0x1p1022, 0))},
		told{"Triangle, a sum of products", askTriangle(mat(2, 2, 1, 1, 0x1p1022, 0x1.8p1023)), over},
		told{"Triangle, behind a row of noughts", askTriangle(mat(2, 2, 0, 0, most, most)), isMat(mat(2, 2, 0, 0, most, most))},
		told{"QR, a length", askQR(mat(3, 2, 0, most, 0, most, 0, most)), over},
		told{"QR, a product with v", askQR(mat(2, 2, 1, most, 0, 0)), over},
		told{"QR, just not", askQR(mat(2, 2, 1, 0x1p1022, 0, 0)), isPair(eye(2), mat(2, 2, 1, 0x1p1022, 0, 0))},
		told{"Least, a dot product", askLeast(mat(2, 1, 1, 1), most, most), over},
		told{"Least, a quotient", askLeast(mat(1, 1, 0.5), most), over},
		told{"Least, a quotient by the least", askLeast(mat(1, 1, least), 1), over},
		told{"Least, a product", askLeast(mat(2, 2, 1, 0x1p600, 0, 1), 1, 0x1p600), over},
		told{"Least, a sum that would be finite again", askLeast(mat(3, 3, 1, 1, 1, 0, 1, 0, 0, 0, 1), 0x1p1023, -0x1p1023, -0x1p1023), over},
		told{"Least, an infinity times nought", askLeast(diagonal(1, 0.5), 1, most), over},
		told{"Least, just not", askLeast(diagonal(1, 0.5), most, 0x1p1022), isFew(most, 0x1p1023)},
	)
}
