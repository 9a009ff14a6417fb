package model_test

import (
	"fmt"
	"math/big"
	"math/rand"
	"slices"
	"testing"

	"binnacle/api"
	"binnacle/matrix"
	"binnacle/model"
	"binnacle/rational"
)

// must is an answer that has no error beside it.
func must[T any](t *testing.T) func(x T, err api.Errno) T {
	return func(x T, err api.Errno) T {
		t.Helper()
		if err != api.OK {
			t.Fatalf("error %d", err)
		}
		return x
	}
}

// P14.8: all whole seconds, of which the sum is below 2^10: F of one time behind F of another is F of both.
func TestTimeGoesOn(t *testing.T) {
	const limit = 1 << 10
	m := motion(part(api.KindSpeed, 1, 1, 0), part(api.KindPull, 1, 1, 0))
	var f []api.Mat
	for s := range int64(limit) {
		f = append(f, must[api.Mat](t)(model.F(m, s*second)))
	}
	for s := range limit {
		for u := range limit - s {
			if got, err := matrix.Mul(f[s], f[u]); err != api.OK || !sameMat(got, f[s+u]) {
				t.Fatalf("%d and %d seconds: %v, error %d, not %v", s, u, got, err, f[s+u])
			}
		}
	}
}

// P14.8: the same of all motions without KindFade.
func TestTimeGoesOnForAll(t *testing.T) {
	r := rand.New(rand.NewSource(148))
	for range 5000 {
		m := moving(r, fitNoise, api.KindStill, api.KindWalk, api.KindSpeed, api.KindPull)
		both := r.Int63n(1024)
		s := r.Int63n(both + 1)
		one, other := must[api.Mat](t)(model.F(m, s*second)), must[api.Mat](t)(model.F(m, (both-s)*second))
		want := must[api.Mat](t)(model.F(m, both*second))
		if got, err := matrix.Mul(one, other); err != api.OK || !sameMat(got, want) {
			t.Fatalf("%+v, %d of %d seconds: %v, error %d, not %v", m, s, both, got, err, want)
		}
	}
}

// P14.8: no time: nothing moves, and no noise comes.
func TestNoTime(t *testing.T) {
	r := rand.New(rand.NewSource(1480))
	for range 5000 {
		m := fitMotion(r)
		dim := must[int](t)(model.Dim(m))
		if f := must[api.Mat](t)(model.F(m, 0)); !sameMat(f, must[api.Mat](t)(matrix.Eye(dim))) {
			t.Fatalf("F of %+v: %v", m, f)
		}
		for _, x := range slices.Concat(must[api.Mat](t)(model.Q(m, 0)).At, must[api.Mat](t)(model.G(m, 0)).At) {
			if x != 0 {
				t.Fatalf("Q or G of %+v: %x", m, x)
			}
		}
	}
}

// exact is a matrix in fractions.
func exact(m api.Mat) [][]*big.Rat {
	out := make([][]*big.Rat, m.Rows)
	for i := range out {
		for _, x := range m.At[i*m.Cols : (i+1)*m.Cols] {
			out[i] = append(out[i], fraction(x))
		}
	}
	return out
}

// isPositive tells, taken exactly, whether a symmetric matrix is positive: whether all its pivots are above 0.
func isPositive(m api.Mat) bool {
	a := exact(m)
	for k := range a {
		if a[k][k].Sign() <= 0 {
			return false
		}
		for i := k + 1; i < len(a); i++ {
			by := new(big.Rat).Quo(a[i][k], a[k][k])
			for j := range a {
				a[i][j] = new(big.Rat).Sub(a[i][j], new(big.Rat).Mul(by, a[k][j]))
			}
		}
	}
	return true
}

// P14.9: Q is symmetric bit by bit, and no number of it is below 0, whatever the motion and the time.
func TestSymmetric(t *testing.T) {
	r := rand.New(rand.NewSource(149))
	for range 10000 {
		m, ticks := fitMotion(r), fitTicks(r)
		q := must[api.Mat](t)(model.Q(m, ticks))
		for i := range q.Rows {
			for j := range q.Rows {
				if x, y := q.At[i*q.Rows+j], q.At[j*q.Rows+i]; !sameNumber(x, y) || x < 0 {
					t.Fatalf("Q of %+v, %d: %v", m, ticks, q)
				}
			}
		}
		if !matrix.Symmetric(q) {
			t.Fatalf("Q of %+v, %d: %v", m, ticks, q)
		}
	}
}

// aboveTicks are at least 1.
func aboveTicks(r *rand.Rand) int64 { return max(1, fitTicks(r)) }

// P14.9: Q is exactly positive, if nothing is still, and noises are neither too small nor too great.
func TestPositive(t *testing.T) {
	r := rand.New(rand.NewSource(1490))
	for range 3000 {
		m, ticks := moving(r, middleNoise, api.KindWalk, api.KindSpeed, api.KindPull, api.KindFade), aboveTicks(r)
		q := must[api.Mat](t)(model.Q(m, ticks))
		if !isPositive(q) {
			t.Fatalf("Q of %+v, %d: %v", m, ticks, q)
		}
		if sign, err := rational.SignMat(q); err != api.OK || sign != api.SignPositive {
			t.Fatalf("Q of %+v, %d: %v: sign %d, error %d", m, ticks, q, sign, err)
		}
	}
	if !isPositive(mat(2, 2, 1, 1, 1, 1+0x1p-52)) || isPositive(mat(2, 2, 1, 1, 1, 1)) || isPositive(mat(2, 2, 1, 2, 2, 1)) || isPositive(mat(1, 1, 0)) {
		t.Error("what is positive isn't told")
	}
}

// P14.9: each kind alone, at both ends of noises and times.
func TestPositiveAtTheEnds(t *testing.T) {
	for _, kind := range anyKinds()[1:] {
		for _, noise := range list(0x1p-100, 0x1.0000000000001p-100, 1, 3, 0x1.fffffffffffffp99, 0x1p100) {
			for _, ticks := range []int64{1, 2, 3, 999999, second, second + 1, end - 1, end} {
				if q := must[api.Mat](t)(model.Q(alone(kind, 1, noise), ticks)); !isPositive(q) {
					t.Errorf("Q of kind %d, noise %x, %d: %v", kind, noise, ticks, q)
				}
				if !nearRoot(t, alone(kind, 1, noise), ticks) {
					t.Errorf("G of kind %d, noise %x, %d", kind, noise, ticks)
				}
			}
		}
	}
}

// isNear tells whether each number (i, j) of g g' - q is at most 2^-46 times the root of q(i, i) q(j, j), all of it squared and taken exactly.
func isNear(g, q [][]*big.Rat) bool {
	bound := new(big.Rat).SetFrac(big.NewInt(1), new(big.Int).Lsh(big.NewInt(1), 92))
	for i := range q {
		for j := range q {
			off := new(big.Rat).Neg(q[i][j])
			for k := range g[i] {
				off.Add(off, new(big.Rat).Mul(g[i][k], g[j][k]))
			}
			room := new(big.Rat).Mul(q[i][i], q[j][j])
			if off.Mul(off, off).Cmp(room.Mul(room, bound)) > 0 {
				return false
			}
		}
	}
	return true
}

// nearRoot tells whether G is near the root of Q, and a lower triangle.
func nearRoot(t *testing.T, m api.Motion, ticks int64) bool {
	t.Helper()
	g, q := must[api.Mat](t)(model.G(m, ticks)), must[api.Mat](t)(model.Q(m, ticks))
	return isNear(exact(g), exact(q)) && matrix.Lower(g)
}

// P14.10: G G' is near Q, for noises of 0 and such as are neither too small nor too great.
func TestTheRoot(t *testing.T) {
	r := rand.New(rand.NewSource(1410))
	noise := func(r *rand.Rand) float64 {
		if r.Intn(6) == 0 {
			return oneOf(r, 0, minus)
		}
		return middleNoise(r)
	}
	for range 3000 {
		m, ticks := moving(r, noise, anyKinds()...), aboveTicks(r)
		if !nearRoot(t, m, ticks) {
			t.Fatalf("%+v, %d", m, ticks)
		}
	}
	one, more := exact(mat(1, 1, 1)), exact(mat(1, 1, 1+0x1p-46))
	off := exact(mat(1, 1, 1+0x3p-47))
	if !isNear(one, one) || !isNear(one, more) || isNear(one, off) || isNear(one, exact(mat(1, 1, 0))) {
		t.Error("the bound isn't held")
	}
}

// P14.11: Names has Dim texts, all unlike, and the text at a Place names it; each place is some number's.
func TestNamed(t *testing.T) {
	r := rand.New(rand.NewSource(1411))
	for range 3000 {
		m := fitMotion(r)
		names := must[[]string](t)(model.Names(m))
		if dim := must[int](t)(model.Dim(m)); len(names) != dim {
			t.Fatalf("%+v: %v, %d numbers", m, names, dim)
		}
		named := map[string]int{}
		for part, p := range m.Parts {
			for axis := range p.Axes {
				for order := range orders(p.Kind) {
					place := must[int](t)(model.Place(m, part, axis, order))
					if want := fmt.Sprint("pva"[order:order+1], part, ".", axis); names[place] != want {
						t.Fatalf("%+v, %s at %d: %v", m, want, place, names)
					}
					named[names[place]]++
				}
			}
		}
		if len(named) != len(names) {
			t.Fatalf("%+v: %v", m, names)
		}
	}
}

// P14.11: Sees by Picks tells the numbers at these places, noughts +0, be the others what they may.
func TestPicked(t *testing.T) {
	r := rand.New(rand.NewSource(14110))
	noughts := 0
	for range 5000 {
		m := fitMotion(r)
		dim := must[int](t)(model.Dim(m))
		var x, want []float64
		for range dim {
			x = append(x, anyFinite(r))
		}
		var places []int
		for range 1 + r.Intn(6) {
			place := r.Intn(dim)
			places = append(places, place)
			if x[place] == 0 {
				want = append(want, 0)
				noughts++
			} else {
				want = append(want, x[place])
			}
		}
		s := api.Sensor{ID: r.Intn(64), H: must[api.Mat](t)(model.Picks(m, places)), R: filled(len(places), 1)}
		if got := saysList(model.Sees(s, x)); !got.is(isList(want...)) {
			t.Fatalf("%+v, %v of %v: %+v", m, places, x, got)
		}
	}
	enough(t, "noughts", noughts, 1000)
}
