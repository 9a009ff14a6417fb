package matrix_test

import (
	"math"
	"math/big"
	"math/rand"
	"slices"
	"testing"

	"binnacle/api"
	"binnacle/matrix"
)

// alike holds two answers against each other: both refused alike, or bits alike.
func alike(t *testing.T, what string, a, b answer) {
	t.Helper()
	if !a.is(b) {
		t.Errorf("%s:\n%+v\n%+v", what, a, b)
	}
}

// then goes on with a matrix, if there is one.
func then(a answer, next func(m api.Mat) (api.Mat, api.Errno)) answer {
	if a.err != api.OK {
		return fault(a.err)
	}
	return asked(next(a.m))
}

// P8.7: turned.
func TestTurned(t *testing.T) {
	r := rand.New(rand.NewSource(87))
	turn := func(m api.Mat) api.Mat { return must(t)(matrix.Transpose(m)) }
	for range 1500 {
		kind := r.Intn(kinds)
		n, k, l := chanceSide(r), chanceSide(r), chanceSide(r)
		a, b, c := chanceMat(r, kind, n, k), chanceMat(r, kind, k, l), chanceMat(r, kind, n, k)
		alike(t, "twice", asked(turn(turn(a)), api.OK), asked(a, api.OK))
		alike(t, "Mul", then(asked(matrix.Mul(a, b)), matrix.Transpose), asked(matrix.Mul(turn(b), turn(a))))
		alike(t, "Add", then(asked(matrix.Add(a, c)), matrix.Transpose), asked(matrix.Add(turn(a), turn(c))))
	}
}

// P8.8: one.
func TestOne(t *testing.T) {
	r := rand.New(rand.NewSource(88))
	for range 1500 {
		kind := r.Intn(kinds)
		n, k := chanceSide(r), chanceSide(r)
		m, p := chanceMat(r, kind, n, k), symmetric(chanceMat(r, kind, n, n))
		left, right := must(t)(matrix.Eye(n)), must(t)(matrix.Eye(k))
		alike(t, "left", asked(matrix.Mul(left, m)), asked(plain(m), api.OK))
		alike(t, "right", asked(matrix.Mul(m, right)), asked(plain(m), api.OK))
		alike(t, "Sandwich", asked(matrix.Sandwich(left, p)), asked(plain(p), api.OK))
	}
}

// P8.9: symmetric.
func TestSymmetric(t *testing.T) {
	r := rand.New(rand.NewSource(89))
	isSymmetric := func(what string, a answer) int {
		if a.err != api.OK {
			return 0
		}
		if !matrix.Symmetric(a.m) {
			t.Errorf("%s: %v isn't symmetric", what, a.m)
		}
		return 1
	}
	answered := [3]int{}
	for range 2000 {
		kind := r.Intn(kinds)
		n, k := chanceSide(r), chanceSide(r)
		f, p, m := chanceMat(r, kind, k, n), chanceSquare(r, kind, n), chanceMat(r, kind, n, n)
		answered[0] += isSymmetric("Sandwich", asked(matrix.Sandwich(f, p)))
		answered[1] += isSymmetric("Mirror", asked(matrix.Mirror(m)))
		answered[2] += isSymmetric("Mean", asked(matrix.Mean(m)))
		s := symmetric(m)
		alike(t, "Mirror of it", asked(matrix.Mirror(s)), asked(s, api.OK))
		if mean := asked(matrix.Mean(s)); twiceHolds(s) {
			alike(t, "Mean of it", mean, asked(s, api.OK))
		} else {
			alike(t, "Mean beyond", mean, fault(api.ErrOver))
		}
	}
	for i, n := range answered {
		if n < 1000 {
			t.Errorf("call %d was answered only %d times", i, n)
		}
	}
}

// twiceHolds tells whether twice each number off the diagonal is finite.
func twiceHolds(m api.Mat) bool {
	for i := range m.Rows {
		for j := range m.Cols {
			if i != j && math.IsInf(number(m, i, j)*2, 0) {
				return false
			}
		}
	}
	return true
}

// off tells, in exact numbers, whether x is farther from the dot product than P8.10 allows.
func off(x float64, a, b []float64) bool {
	sum, amounts := nothing(), nothing()
	for i := range a {
		p := nothing().Mul(exact(a[i]), exact(b[i]))
		sum.Add(sum, p)
		amounts.Add(amounts, nothing().Abs(p))
	}
	n := float64(len(a))
	bound := nothing().Mul(amounts, exact((n+1)*0x1p-53))
	bound.Add(bound, exact(n*least))
	gap := nothing().Sub(exact(x), sum)
	return gap.Abs(gap).Cmp(bound) > 0
}

// P8.10: near, held exactly: what is said is right of sums that cancel, of subnormals, of all that is answered.
func TestNear(t *testing.T) {
	r := rand.New(rand.NewSource(810))
	wrong, answered := 0, 0
	for round := range 3000 {
		kind := round % (kinds + 1)
		n := r.Intn(13)
		x, y := chanceList(r, kind, n), chanceList(r, kind, n)
		if kind == kinds {
			x, y = cancelling(r, n), cancelling(r, n)
		}
		d, e := matrix.Dot(x, y)
		if e != api.OK {
			continue
		}
		answered++
		m := must(t)(matrix.Mul(mat(1, n, x...), mat(n, 1, y...)))
		v, _ := matrix.MulVec(mat(1, n, x...), y)
		if off(d, x, y) || !sameList(m.At, list(d)) || !sameList(v, list(d)) {
			t.Errorf("%x and %x: %x, %x, %x", x, y, d, m.At, v)
			few(t, &wrong)
		}
	}
	if answered < 1500 {
		t.Errorf("answered only %d times", answered)
	}
	if !off(1, list(1), list(1+0x1p-51)) || !off(0, list(0x3p-1074, 1), list(1, 0)) || off(1, list(1), list(1+0x1p-52)) || off(0, list(0x2p-1074, 1), list(1, 0)) {
		t.Error("the bound isn't held")
	}
}

// cancelling is a list of numbers that lie near each other in amount.
func cancelling(r *rand.Rand, n int) []float64 {
	out := chanceList(r, 1, n)
	for i := range out {
		if i > 0 && r.Intn(2) == 0 {
			out[i] = -out[r.Intn(i)] * (1 + float64(r.Intn(3))*0x1p-52)
		}
	}
	return out
}

// Each number of Mul and MulVec is as near.
func TestProductsNear(t *testing.T) {
	r := rand.New(rand.NewSource(811))
	wrong := 0
	for round := range 200 {
		kind := []int{0, 1, 3, 4}[round%4]
		n, k, l := chanceSide(r), chanceSide(r), chanceSide(r)
		a, b := chanceMat(r, kind, n, k), chanceMat(r, kind, k, l)
		m, e := matrix.Mul(a, b)
		for i := range m.Rows {
			for j := range m.Cols {
				v, err := matrix.MulVec(a, colOf(b, j))
				if e != api.OK || err != api.OK || off(number(m, i, j), rowOf(a, i), colOf(b, j)) || !sameNumber(number(m, i, j), v[i]) {
					t.Errorf("Mul(%v, %v) at (%d, %d): %x, %x", a, b, i, j, number(m, i, j), v)
					few(t, &wrong)
				}
			}
		}
	}
}

// P8.11: in parts.
func TestParts(t *testing.T) {
	r := rand.New(rand.NewSource(812))
	for range 1500 {
		kind := r.Intn(kinds)
		n, k, l := chanceSide(r), chanceSide(r), chanceSide(r)
		m := chanceMat(r, kind, n, k)
		i, j := r.Intn(n+1), r.Intn(k+1)
		block := func(i, j, rows, cols int) api.Mat { return must(t)(matrix.Block(m, i, j, rows, cols)) }
		above := must(t)(matrix.Beside(block(0, 0, i, j), block(0, j, i, k-j)))
		below := must(t)(matrix.Beside(block(i, 0, n-i, j), block(i, j, n-i, k-j)))
		alike(t, "blocks", asked(matrix.Stack(above, below)), asked(m, api.OK))

		b, c := chanceMat(r, kind, k, l), chanceMat(r, kind, k, r.Intn(13-l))
		wide := must(t)(matrix.Beside(b, c))
		alike(t, "Mul of Beside", asked(matrix.Mul(m, wide)), joined(asked(matrix.Mul(m, b)), asked(matrix.Mul(m, c)), matrix.Beside))
		d := chanceMat(r, kind, r.Intn(13-n), k)
		high := must(t)(matrix.Stack(m, d))
		alike(t, "Mul of Stack", asked(matrix.Mul(high, b)), joined(asked(matrix.Mul(m, b)), asked(matrix.Mul(d, b)), matrix.Stack))

		s := chanceMat(r, kind, n, n)
		p := r.Perm(n)
		alike(t, "Order", then(asked(matrix.Order(s, p)), func(o api.Mat) (api.Mat, api.Errno) { return matrix.Order(o, turnedRound(p)) }), asked(s, api.OK))
	}
}

// joined puts two together, if there are two.
func joined(a, b answer, put func(a, b api.Mat) (api.Mat, api.Errno)) answer {
	if e := first(a.err, b.err); e != api.OK {
		return fault(e)
	}
	return asked(put(a.m, b.m))
}

func turnedRound(p []int) []int {
	q := make([]int, len(p))
	for i, v := range p {
		q[v] = i
	}
	return q
}

// P8.12: by twos.
func TestByTwos(t *testing.T) {
	r := rand.New(rand.NewSource(813))
	for k := -500; k <= 500; k++ {
		low, high := max(-1022, -1022-k), min(1023, 1023-k)
		m := mat(3, 4, minus, 0, math.Ldexp(1, low), math.Ldexp(2-0x1p-52, high), -math.Ldexp(1, low), -math.Ldexp(2-0x1p-52, high))
		for len(m.At) < 12 {
			m.At = append(m.At, scaled(r, low, high))
		}
		scaledUp := must(t)(matrix.Scale(m, math.Ldexp(1, k)))
		for i, x := range scaledUp.At {
			if want := math.Ldexp(m.At[i], k); !sameNumber(x, want) {
				t.Errorf("%x by 2^%d: %x, not %x", m.At[i], k, x, want)
			}
		}
		alike(t, "there and back", asked(matrix.Scale(scaledUp, math.Ldexp(1, -k))), asked(m, api.OK))
	}
}

// What the oracle reckons by exact numbers is what the machine's single steps are, so that it may be trusted with more of them.
func TestOracle(t *testing.T) {
	for _, x := range numbers() {
		for _, y := range numbers() {
			if !sameNumber(plus(x, y), x+y) || !sameNumber(times(x, y), x*y) {
				t.Errorf("%x and %x: %x, %x", x, y, plus(x, y), times(x, y))
			}
		}
	}
	if got := dotInOrder(list(1, 2), list(3, 4)); got != 11 {
		t.Errorf("1 * 3 + 2 * 4: %g", got)
	}
	if s := slices.Max(numbers()); exact(s).Cmp(new(big.Float).SetFloat64(most)) != 0 {
		t.Errorf("the greatest number: %g", s)
	}
}
