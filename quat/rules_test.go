package quat_test

import (
	"math"
	"math/big"
	"math/rand"
	"testing"

	"binnacle/api"
	"binnacle/matrix"
	"binnacle/quat"
)

func gapOf(a, b *big.Rat) *big.Rat {
	out := new(big.Rat).Sub(a, b)
	return out.Abs(out)
}

func productOf(a, b *big.Rat) *big.Rat { return new(big.Rat).Mul(a, b) }

func one() *big.Rat { return big.NewRat(1, 1) }

// isUnit tells whether the exact sum of squares differs from 1 by at most 2^-49.
func isUnit(q api.Quat) bool { return offOne(q).Cmp(two(-49)) <= 0 }

// P12.8: what these calls answer is of length 1, of all kinds of numbers.
func TestUnitStaysUnit(t *testing.T) {
	r := rand.New(rand.NewSource(128))
	wrong := 0
	for _, c := range calls() {
		switch c.name {
		case "Unit", "Join", "From", "Cayley", "Between", "Mix":
		default:
			continue
		}
		answered := 0
		for round := range 4500 {
			q := fitting(r, c.name, round%kinds)
			got := c.ask(q)
			if got.err != api.OK {
				continue
			}
			answered++
			if !isUnit(got.q) || !quat.Good(got.q) {
				t.Errorf("%s of %+v: %x", c.name, q, got.q)
				few(t, &wrong)
			}
		}
		if answered < 2000 {
			t.Errorf("%s: answered only %d times", c.name, answered)
		}
	}
	if !isUnit(quatOf(1, 0x1.6a09e667f3bccp-25, 0, 0)) || isUnit(quatOf(1, 0x1.6a09e667f3bcdp-25, 0, 0)) || isUnit(quatOf(1-0x9p-53, 0, 0, 0)) || !isUnit(quatOf(1-0x8p-53, 0, 0, 0)) {
		t.Error("the bound isn't held")
	}
}

// P12.8: however often one is joined to the next; what isn't brought back to length 1 drifts.
func TestJoinedOftenStaysUnit(t *testing.T) {
	r := rand.New(rand.NewSource(1281))
	q, loose := quatOf(1, 0, 0, 0), quatOf(1, 0, 0, 0)
	small, _ := quat.Cayley(vec(0x1p-7, -0.003, 0.0021))
	for round := range 300000 {
		by := small
		if round%100 == 0 {
			by = chanceUnit(r)
		}
		var err api.Errno
		if q, err = quat.Join(q, by); err != api.OK {
			t.Fatal(err)
		}
		loose, _ = quat.Mul(loose, small)
		if round%50 == 0 && (!isUnit(q) || !quat.Good(q)) {
			t.Fatalf("after %d: %x", round, q)
		}
	}
	if !isUnit(q) || quat.Good(loose) {
		t.Errorf("at the end: %x, and without Join %x", q, loose)
	}
}

// whole is a quaternion of whole numbers of an amount below 2^k, the greatest ones among them.
func whole(r *rand.Rand, k int) api.Quat {
	l := make([]float64, 4)
	for i := range l {
		switch n := 1<<k - 1; r.Intn(4) {
		case 0:
			l[i] = math.Copysign(float64(n), float64(r.Intn(2))-0.5)
		case 1:
			l[i] = float64(r.Intn(7) - 3)
		default:
			l[i] = float64(r.Intn(2*n+1) - n)
		}
	}
	return quatFrom(l)
}

// exactMul is Mul without any rounding, by Hamilton's i, j and k.
func exactMul(a, b api.Quat) []*big.Rat {
	// Of units m and n the product is unit m ^ n, with this sign.
	sign := [4][4]int64{{1, 1, 1, 1}, {1, -1, 1, -1}, {1, -1, -1, 1}, {1, 1, -1, -1}}
	out := []*big.Rat{new(big.Rat), new(big.Rat), new(big.Rat), new(big.Rat)}
	for m, x := range numbersOf(a) {
		for n, y := range numbersOf(b) {
			term := productOf(fraction(x), fraction(y))
			out[m^n].Add(out[m^n], term.Mul(term, big.NewRat(sign[m][n], 1)))
		}
	}
	return out
}

func equals(q api.Quat, l []*big.Rat) bool {
	for i, x := range numbersOf(q) {
		if fraction(x).Cmp(l[i]) != 0 {
			return false
		}
	}
	return true
}

// P12.9: of whole numbers Mul is exact, and so are Euler's four squares.
func TestFourSquares(t *testing.T) {
	r := rand.New(rand.NewSource(129))
	for range 4000 {
		a, b := whole(r, 24), whole(r, 24)
		ab, err := quat.Mul(a, b)
		if err != api.OK || !equals(ab, exactMul(a, b)) {
			t.Fatalf("Mul of %v and %v: %v, %d", a, b, ab, err)
		}
		if squares(numbersOf(ab)...).Cmp(productOf(squares(numbersOf(a)...), squares(numbersOf(b)...))) != 0 {
			t.Fatalf("the squares of %v, %v and %v", a, b, ab)
		}
		back, _ := quat.Conj(a)
		n, err := quat.Mul(a, back)
		if err != api.OK || fraction(n.W).Cmp(squares(numbersOf(a)...)) != 0 || n.X != 0 || n.Y != 0 || n.Z != 0 {
			t.Fatalf("%v times its Conj: %v, %d", a, n, err)
		}
	}
}

// P12.9: Mul is associative, but not commutative.
func TestAssociative(t *testing.T) {
	r := rand.New(rand.NewSource(1291))
	unlike := 0
	mul := func(a, b api.Quat) api.Quat {
		ab, err := quat.Mul(a, b)
		if err != api.OK {
			t.Fatal(err)
		}
		return ab
	}
	for range 20000 {
		a, b, c := whole(r, 15), whole(r, 15), whole(r, 15)
		if one, other := mul(mul(a, b), c), mul(a, mul(b, c)); one != other {
			t.Fatalf("%v, %v, %v: %v and %v", a, b, c, one, other)
		}
		if mul(a, b) != mul(b, a) {
			unlike++
		}
	}
	if unlike < 10000 {
		t.Errorf("only %d were others the other way round", unlike)
	}
}

// chanceGood is a Good quaternion, at times at the end of what is good.
func chanceGood(r *rand.Rand) api.Quat {
	switch r.Intn(8) {
	case 0:
		return []api.Quat{quatOf(1, 0x1p-24, 0, 0), quatOf(-0x1p-24, 0, minus, -1), quatOf(0, 1+0x7p-52, 0, 0), quatOf(0x1p-24*16777215, 0x1p-24*5791, 0x1p-24*130, 0x1p-24*43), quatOf(0x1p-24*43, -0x1p-24*130, 0x1p-24*16777215, 0x1p-24*5791), quatOf(0, 0.6, 0.8, 0), quatOf(0.5, -0.5, 0.5, 0.5), quatOf(1, least, -least, 0x1p-700)}[r.Intn(8)]
	case 1, 2, 3:
		for {
			if q := chanceNear(r); wordsOfGood(q) {
				return q
			}
		}
	}
	return chanceUnit(r)
}

// between tells whether all numbers are 0 or from 2^low to 2^high in amount.
func between(x []float64, low, high int) bool {
	for _, a := range x {
		if a != 0 && (math.Abs(a) < math.Ldexp(1, low) || math.Abs(a) > math.Ldexp(1, high)) {
			return false
		}
	}
	return true
}

// chanceMiddle is a vector of which the numbers are 0 or from 2^-400 to 2^400, both ends among them; at times they are noughts alone, at times of one size.
func chanceMiddle(r *rand.Rand) api.Vec {
	for {
		v := chanceVec(r, []int{kindWhole, kindMild, kindWide, kindNought, kindUnit}[r.Intn(5)])
		if r.Intn(3) == 0 {
			v[r.Intn(3)] = []float64{0x1p-400, -0x1p-400, 0x1p400, -0x1p400}[r.Intn(4)]
		}
		if r.Intn(4) == 0 {
			k := r.Intn(798) - 399
			for i := range v {
				v[i] = math.Ldexp(v[i], k)
			}
		}
		if between(v[:], -400, 400) {
			return v
		}
	}
}

// keptLength tells whether the exact lengths of v and of what came of it differ by at most 2^-44 of v's.
func keptLength(got, v api.Vec) bool {
	low, high := new(big.Rat).Sub(one(), two(-44)), new(big.Rat).Add(one(), two(-44))
	square, turned := squares(v[:]...), squares(got[:]...)
	return turned.Cmp(productOf(productOf(low, low), square)) >= 0 && turned.Cmp(productOf(productOf(high, high), square)) <= 0
}

// P12.10: lengths are kept, held exactly.
func TestLengthsAreKept(t *testing.T) {
	r := rand.New(rand.NewSource(1210))
	wrong := 0
	for range 8000 {
		q, v := chanceGood(r), chanceMiddle(r)
		if got, err := quat.Turn(q, v); err != api.OK || !keptLength(got, v) {
			t.Errorf("Turn of %x, %x: %x, %d", q, v, got, err)
			few(t, &wrong)
		}
	}
	v := vec(0, 0, 1)
	if !keptLength(v, v) || !keptLength(vec(0, 0, 1+0x1p-44), v) || keptLength(vec(0, 0, 1+0x3p-45), v) || !keptLength(vec(0, 0, -1+0x1p-44), v) || keptLength(vec(0, 0, 1-0x3p-45), v) || keptLength(vec(0, 0, least), vec(0, 0, 0)) {
		t.Error("the bound isn't held")
	}
}

// nearBy tells whether two vectors differ, number by number, by at most 2^-42 of v's length.
func nearBy(a, b, v api.Vec) bool {
	for i := range a {
		gap := gapOf(fraction(a[i]), fraction(b[i]))
		if productOf(gap, gap).Cmp(productOf(two(-84), squares(v[:]...))) > 0 {
			return false
		}
	}
	return true
}

// P12.11: joined is turned twice; there and back; Turn and Matrix: held exactly.
func TestTurnedTwice(t *testing.T) {
	r := rand.New(rand.NewSource(12110))
	wrong := 0
	must := func(v api.Vec, err api.Errno) api.Vec {
		if err != api.OK {
			t.Fatal(err)
		}
		return v
	}
	for range 6000 {
		a, b, v := chanceGood(r), chanceGood(r), chanceMiddle(r)
		ab, err := quat.Join(a, b)
		if err != api.OK {
			t.Fatal(err)
		}
		back, _ := quat.Conj(a)
		m, err := quat.Matrix(a)
		if err != api.OK {
			t.Fatal(err)
		}
		l, err := matrix.MulVec(m, v[:])
		if err != api.OK {
			t.Fatal(err)
		}
		turned := must(quat.Turn(a, v))
		atOnce, twice := must(quat.Turn(ab, v)), must(quat.Turn(a, must(quat.Turn(b, v))))
		if !nearBy(atOnce, twice, v) || !nearBy(must(quat.Turn(back, turned)), v, v) || !nearBy(turned, vec(l[0], l[1], l[2]), v) {
			t.Errorf("%x, %x, %x: at once %x, twice %x, by the matrix %x", a, b, v, atOnce, twice, l)
			few(t, &wrong)
		}
	}
	v := vec(0, 0, 2)
	if !nearBy(vec(0x1p-41, 0, -2), vec(0, 0, -2), v) || nearBy(vec(0x1.0001p-41, 0, 0), vec(0, 0, 0), v) || nearBy(vec(0, 0, 2), vec(0, 0, 2-0x3p-42), v) {
		t.Error("the bound isn't held")
	}
}

// P12.12: From(Matrix(q)) is q's turn.
func TestMatrixAndBack(t *testing.T) {
	r := rand.New(rand.NewSource(1212))
	wrong, other := 0, 0
	for range 8000 {
		q := chanceGood(r)
		m, e1 := quat.Matrix(q)
		back, e2 := quat.From(m)
		apart, e3 := quat.Apart(back, q)
		if e1 != api.OK || e2 != api.OK || e3 != api.OK || apart > 0x1p-40 {
			t.Errorf("%x, and back: %x, apart %x", q, back, apart)
			few(t, &wrong)
		}
		dot, _ := quat.Dot(back, q)
		if math.Abs(math.Abs(dot)-1) > 0x1p-40 {
			t.Errorf("%x, and back: %x, Dot %x", q, back, dot)
			few(t, &wrong)
		}
		if dot < 0 {
			other++
		}
	}
	if other < 1000 || other > 7000 {
		t.Errorf("with the other sign %d times", other)
	}
}

// nearEach tells whether each number of a differs from v's by at most 2^-48 of it.
func nearEach(a, v api.Vec) bool {
	for i := range a {
		amount := fraction(math.Abs(v[i]))
		if gapOf(fraction(a[i]), fraction(v[i])).Cmp(amount.Mul(amount, two(-48))) > 0 {
			return false
		}
	}
	return true
}

// P12.12: Gibbs(Cayley(v)) is v, nearly, held exactly.
func TestCayleyAndBack(t *testing.T) {
	r := rand.New(rand.NewSource(12120))
	wrong, unlike := 0, 0
	for range 20000 {
		v := chanceMiddle(r)
		q, e1 := quat.Cayley(v)
		back, e2 := quat.Gibbs(q)
		if e1 != api.OK || e2 != api.OK || !nearEach(back, v) {
			t.Errorf("%x, and back: %x", v, back)
			few(t, &wrong)
		}
		if back != v {
			unlike++
		}
	}
	if unlike < 1000 {
		t.Errorf("only %d were rounded", unlike)
	}
	if !nearEach(vec(1+0x1p-48, 0, 0), vec(1, 0, 0)) || nearEach(vec(0, 1+0x3p-49, 0), vec(0, 1, 0)) || nearEach(vec(0, 0, least), vec(0, 0, 0)) || nearEach(vec(1, 0, 1-0x3p-49), vec(1, 0, 1)) {
		t.Error("the bound isn't held")
	}
}

// directionOf is a vector divided by its exact length, each number off by far less than 2^-280.
func directionOf(v api.Vec) [3]*big.Float {
	length := new(big.Float).SetPrec(400).SetRat(squares(v[:]...))
	length.Sqrt(length)
	var out [3]*big.Float
	for i := range v {
		out[i] = new(big.Float).SetPrec(400).SetFloat64(v[i])
		out[i].Quo(out[i], length)
	}
	return out
}

// oneWay tells whether two vectors, each divided by its exact length, surely differ by at most 2^-38, number by number.
func oneWay(a, b api.Vec) bool {
	c, d := directionOf(a), directionOf(b)
	for i := range c {
		gap := new(big.Float).Sub(c[i], d[i])
		gap.Abs(gap).Add(gap, big.NewFloat(0x1p-280))
		if gap.Cmp(big.NewFloat(0x1p-38)) > 0 {
			return false
		}
	}
	return true
}

// chancePair are two vectors, at times nearly of one way, at times nearly opposite.
func chancePair(r *rand.Rand) (api.Vec, api.Vec) {
	for {
		a, b := chanceMiddle(r), chanceMiddle(r)
		if r.Intn(2) == 0 {
			by := []float64{1, -1, -2, 3, -0.1}[r.Intn(5)]
			k := -5 - r.Intn(20)
			longest := max(math.Abs(a[0]), math.Abs(a[1]), math.Abs(a[2]))
			for i := range b {
				b[i] = by*a[i] + math.Ldexp(longest*(r.Float64()-0.5), k)
			}
		}
		if between(b[:], -400, 400) && a != vec(0, 0, 0) && b != vec(0, 0, 0) {
			return a, b
		}
	}
}

// P12.13: the shortest turn leads a's direction to b's.
func TestTheShortestTurn(t *testing.T) {
	r := rand.New(rand.NewSource(1213))
	wrong, asked, nearlyOpposite := 0, 0, 0
	for range 6000 {
		a, b := chancePair(r)
		q, onePlus := wordsOfBetween(a, b)
		if onePlus < 0x1p-20 {
			continue
		}
		if asked++; onePlus < 0x1p-14 {
			nearlyOpposite++
		}
		got, e1 := quat.Between(a, b)
		v, e2 := quat.Turn(got, a)
		if e1 != api.OK || e2 != api.OK || !sameQuat(got, q) || !oneWay(v, b) {
			t.Errorf("Between of %x and %x: %x, turned %x", a, b, got, v)
			few(t, &wrong)
		}
	}
	if asked < 3000 || nearlyOpposite < 100 {
		t.Errorf("asked only %d times, nearly opposite %d times", asked, nearlyOpposite)
	}
	v := vec(1, 0, 0)
	if !oneWay(v, vec(5, 0, 0)) || !oneWay(v, vec(1, 0x1p-39, 0)) || oneWay(v, vec(1, 0, 0x1.0001p-38)) || oneWay(v, vec(-1, 0, 0)) {
		t.Error("the bound isn't held")
	}
}
