package qr_test

import (
	"math"
	"math/big"
	"math/rand"
	"testing"

	"binnacle/api"
	"binnacle/qr"
)

func minusOf(a, b *big.Rat) *big.Rat { return new(big.Rat).Sub(a, b) }

func productOf(a, b *big.Rat) *big.Rat { return new(big.Rat).Mul(a, b) }

// exactDot is a dot product without any rounding.
func exactDot(x, y []float64) *big.Rat {
	out := new(big.Rat)
	for i := range x {
		out.Add(out, productOf(fraction(x[i]), fraction(y[i])))
	}
	return out
}

// within tells whether the amount of gap is at most by times the root of square, in fractions.
func within(gap, by, square *big.Rat) bool {
	return productOf(gap, gap).Cmp(productOf(productOf(by, by), square)) <= 0
}

// nearRoot tells whether x differs from the root of square by at most (n + 4) * 2^-53 of it, and 2^-1074.
func nearRoot(x float64, square *big.Rat, n int) bool {
	by := productOf(big.NewRat(int64(n+4), 1), two(-53))
	above := minusOf(fraction(x), two(-1074))
	low := productOf(minusOf(big.NewRat(1, 1), by), minusOf(big.NewRat(1, 1), by))
	below := new(big.Rat).Add(fraction(x), two(-1074))
	return (above.Sign() <= 0 || within(above, by.Add(by, big.NewRat(1, 1)), square)) && productOf(below, below).Cmp(low.Mul(low, square)) >= 0
}

// nearEach tells whether two lengths of a list differ by no more than twice that.
func nearEach(x, y float64, square *big.Rat, n int) bool {
	gap := minusOf(fraction(x), fraction(y))
	gap.Sub(gap.Abs(gap), two(-1073))
	return gap.Sign() <= 0 || within(gap, productOf(big.NewRat(2*int64(n+4), 1), two(-53)), square)
}

// shuffled is a list in another order, with other signs.
func shuffled(r *rand.Rand, x []float64) []float64 {
	out := make([]float64, len(x))
	for i, p := range r.Perm(len(x)) {
		out[p] = math.Copysign(x[i], float64(r.Intn(2))-0.5)
	}
	return out
}

// P10.7: at least the greatest amount, near the exact root, near in any order and with any signs, held exactly.
func TestTheLength(t *testing.T) {
	r := rand.New(rand.NewSource(107))
	wrong, unlike := 0, 0
	var answered [kinds]int
	for round := range 4000 {
		kind := round % kinds
		x := chanceList(r, kind, 1+r.Intn(api.MaxWide))
		if kind == kindGreat {
			x = x[:min(len(x), 4)]
		}
		length, err := qr.Length(x)
		if err != api.OK {
			continue
		}
		answered[kind]++
		square := exactDot(x, x)
		for _, a := range x {
			if length < math.Abs(a) {
				t.Errorf("Length of %x: %x", x, length)
				few(t, &wrong)
			}
		}
		other, err := qr.Length(shuffled(r, x))
		if err != api.OK && length < most/2 || !nearRoot(length, square, len(x)) || err == api.OK && !nearEach(length, other, square, len(x)) {
			t.Errorf("Length of %x: %x, in another order %x", x, length, other)
			few(t, &wrong)
		}
		if other != length {
			unlike++
		}
	}
	for kind, n := range answered {
		if n < 100 {
			t.Errorf("kind %d: answered only %d times", kind, n)
		}
	}
	if unlike < 50 {
		t.Errorf("only %d were others in another order", unlike)
	}
}

// What holds the lengths tells those that are off.
func TestBoundsOfLengths(t *testing.T) {
	four, small := big.NewRat(4, 1), exactDot(list(least, least), list(1, 0))
	small = productOf(small, small)
	if !nearRoot(2+0x5p-52, four, 1) || nearRoot(2+0xcp-52, four, 1) || !nearRoot(2-0x8p-53, four, 1) || nearRoot(2-0xcp-53, four, 1) {
		t.Error("the bound isn't held")
	}
	if !nearRoot(0, small, 1) || !nearRoot(2*least, small, 1) || nearRoot(3*least, small, 1) {
		t.Error("the bound isn't held below")
	}
	if !nearEach(2+0x9p-52, 2, four, 1) || nearEach(2, 2+0xbp-51, four, 1) {
		t.Error("the bound of two isn't held")
	}
}

// P10.7: times a power of 2, bits alike.
func TestLengthByTwos(t *testing.T) {
	r := rand.New(rand.NewSource(1071))
	asked := 0
	for range 4000 {
		x := chanceList(r, []int{kindWhole, kindMild, kindWide}[r.Intn(3)], r.Intn(api.MaxWide+1))
		j := r.Intn(1201) - 600
		other := make([]float64, len(x))
		for i := range x {
			other[i] = math.Ldexp(x[i], j)
		}
		one, e1 := qr.Length(x)
		two, e2 := qr.Length(other)
		if !between(append(x, one), -900, 900) || !between(append(other, two), -900, 900) {
			continue
		}
		asked++
		if e1 != api.OK || e2 != api.OK || !sameNumber(two, math.Ldexp(one, j)) {
			t.Fatalf("Length of %x: %x, times 2^%d: %x", x, one, j, two)
		}
	}
	if asked < 1000 {
		t.Errorf("asked only %d times", asked)
	}
}

// between tells whether all numbers are 0 or from 2^low to 2^high in amount.
func between(x []float64, low, high int) bool {
	for _, a := range x {
		if a != 0 && (math.Abs(a) < math.Ldexp(1, low) || math.Abs(a) > math.Ldexp(1, high)) {
			return false
		}
	}
	return true
}

// isTurned tells whether a turn is near one, in fractions.
func isTurned(a, b, c, s, r float64) bool {
	by := two(-48)
	one := minusOf(exactDot(list(c, s), list(c, s)), big.NewRat(1, 1))
	along := minusOf(exactDot(list(c, s), list(a, b)), fraction(r))
	across := exactDot(list(c, -s), list(b, a))
	square := productOf(fraction(r), fraction(r))
	return within(one, by, big.NewRat(1, 1)) && within(along, by, square) && within(across, by, square)
}

// P10.8: held exactly, at both ends and between.
func TestTurned(t *testing.T) {
	r := rand.New(rand.NewSource(108))
	ends := []float64{0x1p-900, 0x1p900, 1, 0x1.fffffffffffffp899, 0x1.fffffffffffffp-900}
	for round := range 20000 {
		a, b := scaled(r, -900, 899), scaled(r, -900, 899)
		switch round % 4 {
		case 0:
			b = math.Ldexp(b, math.Ilogb(a)-math.Ilogb(b))
		case 1:
			b = math.Ldexp(b, math.Ilogb(a)-math.Ilogb(b)+r.Intn(121)-60)
		case 2:
			a, b = math.Copysign(ends[r.Intn(5)], a), math.Copysign(ends[r.Intn(5)], b)
		}
		if !between(list(a, b), -900, 900) {
			continue
		}
		if c, s, length, err := qr.Givens(a, b); err != api.OK || !isTurned(a, b, c, s, length) {
			t.Fatalf("Givens of %x and %x: %x, %x, %x", a, b, c, s, length)
		}
	}
	if isTurned(3, 4, 0.6+0x1p-47, 0.8, 5) || isTurned(3, 4, 0.6, 0.8, 5+0x1p-44) || isTurned(3, 4, 0.8, 0.6, 5) || isTurned(3, 4, 0.6, -0.8, -1.4) || !isTurned(3, 4, 0.6, 0.8, 5) {
		t.Error("the bounds aren't held")
	}
}

// rowOf is the numbers of a row.
func rowOf(m api.Mat, i int) []float64 { return m.At[i*m.Cols : (i+1)*m.Cols] }

// besideOf is all matrices as one, that may be wider than others are.
func besideOf(l []api.Mat) api.Mat {
	out := mat(l[0].Rows, 0)
	for _, m := range l {
		out.Cols += m.Cols
	}
	for i := range out.Rows {
		for _, m := range l {
			out.At = append(out.At, rowOf(m, i)...)
		}
	}
	return out
}

// isLowerUpright tells whether above the diagonal all is +0, and on it nothing below 0, nor -0.
func isLowerUpright(l api.Mat) bool {
	for i := range l.Rows {
		if math.Signbit(number(l, i, i)) {
			return false
		}
		for j := i + 1; j < l.Cols; j++ {
			if !sameNumber(number(l, i, j), 0) {
				return false
			}
		}
	}
	return l.Rows == l.Cols
}

// isRootOf tells whether L L' is near A A', in fractions.
func isRootOf(l, a api.Mat) bool {
	for i := range a.Rows {
		for j := range i + 1 {
			gap := minusOf(exactDot(rowOf(l, i), rowOf(l, j)), exactDot(rowOf(a, i), rowOf(a, j)))
			if !within(gap, two(-38), productOf(exactDot(rowOf(a, i), rowOf(a, i)), exactDot(rowOf(a, j), rowOf(a, j)))) {
				return false
			}
		}
	}
	return l.Rows == a.Rows && isLowerUpright(l)
}

// P10.9: held exactly, of all shapes, of rows that hang together too.
func TestTheTriangleIsTheRoot(t *testing.T) {
	r := rand.New(rand.NewSource(109))
	wrong := 0
	for round := range 320 {
		kind := []int{kindWhole, kindMild, kindWide, kindNought}[round%4]
		l := chanceBeside(r, kind, 1+r.Intn(12), api.MaxWide)
		a := besideOf(l)
		if !between(a.At, -400, 400) {
			continue
		}
		if got, err := qr.Triangle(l); err != api.OK || !isRootOf(got, a) {
			t.Errorf("Triangle of %x: %x, %d", l, got, err)
			few(t, &wrong)
		}
	}
	a := mat(2, 2, 1, 0, 1, 1)
	if !isRootOf(a, a) || isRootOf(mat(2, 2, 1, 0, 1, 1+0x1p-36), a) || isRootOf(mat(2, 2, 1, 0, 1+0x1p-36, 1), a) || isRootOf(mat(2, 2, -1, 0, -1, 1), a) || isRootOf(mat(2, 2, 1, minus, 1, 1), a) || isRootOf(eye(3), eye(2)) {
		t.Error("the bounds aren't held")
	}
}

// isQR tells whether q r is near m, q' q near 1, and r upper with nothing below 0 on its diagonal, in fractions.
func isQR(q, r, m api.Mat) bool {
	if q.Rows != m.Rows || q.Cols != m.Cols || r.Rows != m.Cols || !isLowerUpright(turned(r)) {
		return false
	}
	qt, rt, mt := turned(q), turned(r), turned(m)
	for j := range m.Cols {
		column := rowOf(mt, j)
		for i := range m.Rows {
			gap := minusOf(exactDot(rowOf(q, i), rowOf(rt, j)), fraction(column[i]))
			if !within(gap, two(-38), exactDot(column, column)) {
				return false
			}
		}
		for k := range j + 1 {
			gap := exactDot(rowOf(qt, j), rowOf(qt, k))
			if k == j {
				gap.Sub(gap, big.NewRat(1, 1))
			}
			if !within(gap, two(-38), big.NewRat(1, 1)) {
				return false
			}
		}
	}
	return true
}

// P10.10: held exactly, of all shapes, of columns that hang together too.
func TestQAndR(t *testing.T) {
	chance := rand.New(rand.NewSource(1010))
	wrong, asked := 0, 0
	for round := range 1200 {
		m := chanceTall(chance, []int{kindWhole, kindMild, kindWide, kindNought}[round%4])
		if !between(m.At, -400, 400) {
			continue
		}
		asked++
		if q, r, err := qr.QR(m); err != api.OK || !isQR(q, r, m) {
			t.Errorf("QR of %x: %x, %x, %d", m, q, r, err)
			few(t, &wrong)
		}
	}
	if asked < 1000 {
		t.Errorf("asked only %d times", asked)
	}
	m := mat(2, 2, 2, -6, 0, 1)
	if !isQR(eye(2), m, m) || isQR(eye(2), mat(2, 2, 2, -6, 0, 1+0x1p-34), m) || isQR(diagonal(1+0x1p-38, 1), m, m) || isQR(diagonal(-1, 1), mat(2, 2, -2, 6, 0, 1), m) || isQR(eye(2), mat(2, 2, 2, -6, minus, 1), m) || isQR(mat(2, 2, 1, 0x1p-37, 0, 1), m, m) {
		t.Error("the bounds aren't held")
	}
}

// chanceLower is a lower triangle with a diagonal above 0, of numbers from 2^-400 to 2^400 and noughts.
func chanceLower(r *rand.Rand, kind, n int) api.Mat {
	return table(n, n, func(i, j int) float64 {
		x := chanceNumber(r, kind)
		for i == j && x == 0 {
			x = chanceNumber(r, kind)
		}
		switch {
		case i == j:
			return math.Abs(x)
		case i < j:
			return 0
		}
		return x
	})
}

// P10.11: the triangle of a triangle is near it, held exactly.
func TestOneTriangle(t *testing.T) {
	r := rand.New(rand.NewSource(1011))
	wrong := 0
	for round := range 600 {
		l := chanceLower(r, []int{kindWhole, kindMild, kindWide, kindNought}[round%4], r.Intn(13))
		got, err := qr.Triangle(mats(l))
		if err != api.OK || !between(l.At, -400, 400) || !isNear(got, l) {
			t.Errorf("Triangle of %x: %x, %d", l, got, err)
			few(t, &wrong)
		}
	}
	a := mat(2, 2, 1, 0, 0x1p10, 1)
	if !isNear(a, a) || !isNear(mat(2, 2, 1, 0, 0x1p10, 1+0x1p-28), a) || isNear(mat(2, 2, 1, 0, 0x1p10, 1+0x1p-26), a) || isNear(mat(2, 2, 1+0x1p-37, 0, 0x1p10, 1), a) {
		t.Error("the bound isn't held")
	}
}

// isNear tells whether each number differs by at most 2^-38 times the length of its row, in fractions.
func isNear(got, l api.Mat) bool {
	if got.Rows != l.Rows || got.Cols != l.Cols {
		return false
	}
	for i := range l.Rows {
		for j := range l.Cols {
			if !within(minusOf(fraction(number(got, i, j)), fraction(number(l, i, j))), two(-38), exactDot(rowOf(l, i), rowOf(l, i))) {
				return false
			}
		}
	}
	return isLowerUpright(got)
}
