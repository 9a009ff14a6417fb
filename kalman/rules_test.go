package kalman_test

import (
	"math"
	"math/big"
	"math/rand"
	"testing"

	"binnacle/api"
	"binnacle/kalman"
)

// P15.9: every state that a call answers passes Check; by the oracle too. A state goes on from one call to the next, as far as it is let.
func TestPositiveAlways(t *testing.T) {
	r := rand.New(rand.NewSource(159))
	answered, refused := map[string]int{}, 0
	for round := range 300 {
		n := 1 + round%7
		s := fitState(r, round%kinds, n)
		for range 25 {
			q := fitQuestion(r, kindMild, n)
			q.s = s
			c := oneOf(r, calls()[1], calls()[2], calls()[4], calls()[5], calls()[6])
			got := c.ask(q)
			if got.err != api.OK {
				refused++
				continue
			}
			answered[c.name]++
			if kalman.Check(got.s) != api.OK || reckoned(func() answer {
				wordsOfCheck(got.s)
				return answer{}
			}).err != api.OK {
				t.Fatalf("%s of %+v: %+v", c.name, q, got.s)
			}
			s = got.s
		}
	}
	for _, name := range []string{"Predict", "Move", "Update", "Short", "Rows"} {
		enough(t, name, answered[name], 300)
	}
	enough(t, "refused", refused, 300)
}

// P15.10: however the rows are cut in two, bit by bit; a row that is refused is the same row behind the ones ahead of it.
func TestOneByOne(t *testing.T) {
	r := rand.New(rand.NewSource(1510))
	whole, spoilt := 0, 0
	for round := range 400 {
		n := r.Intn(6)
		q := fitQuestion(r, round%kinds, n)
		rows := 1 + r.Intn(7)
		q.rows, q.rs, q.zs = mat(rows, n), nil, nil
		for range rows {
			q.rows.At = append(q.rows.At, oneOf(r, fitRow(r, n), filled(n, 1))...)
			q.rs, q.zs = append(q.rs, oneOf(r, 1, between(r, -4, 4))), append(q.zs, r.NormFloat64())
		}
		if r.Intn(3) == 0 {
			q.rs[r.Intn(rows)] = oneOf(r, 0, nan, most)
		}
		all := askRows(q.s, q.rows, q.rs, q.zs)
		for cut := range rows + 1 {
			first := askRows(q.s, mat(cut, n, q.rows.At[:cut*n]...), q.rs[:cut], q.zs[:cut])
			if first.err != api.OK {
				hold(t, told{"refused by the first ones", first, all})
				continue
			}
			last := askRows(first.s, mat(rows-cut, n, q.rows.At[cut*n:]...), q.rs[cut:], q.zs[cut:])
			if last.err != api.OK {
				spoilt++
				hold(t, told{"refused by the last ones", faultAt(last.place+cut, last.err), all})
				continue
			}
			whole++
			last.steps = append(first.steps, last.steps...)
			hold(t, told{"in two", last, all})
		}
	}
	enough(t, "answered", whole, 500)
	enough(t, "refused", spoilt, 100)
}

// P15.11: a row of noughts, of either sign, changes the means by noughts; Var is r.
func TestBlind(t *testing.T) {
	r := rand.New(rand.NewSource(1511))
	asked := 0
	for round := range 1500 {
		n := r.Intn(8)
		s := fitState(r, round%kinds, n)
		h := make([]float64, n)
		for i := range h {
			h[i] = oneOf(r, 0, minus)
		}
		variance, z := fitVariance(r), oneOf(r, anyFinite(r), r.NormFloat64())
		for _, got := range []answer{askUpdate(s, h, variance, z), askShort(s, h, variance, z), askRows(s, mat(1, n, h...), list(variance), list(z))} {
			if got.err != api.OK {
				// What goes over is the score alone.
				if got.err != api.ErrOver || isFinite(float64(z*z)/variance) {
					t.Fatalf("a row of noughts, variance %g, value %g: error %d", variance, z, got.err)
				}
				continue
			}
			asked++
			for i := range n {
				if got.s.X[i] != s.X[i] || got.steps[0].Gain[i] != 0 {
					t.Fatalf("a row of noughts changes %v into %v", s.X, got.s.X)
				}
			}
			if got.steps[0].Var != variance || got.steps[0].Innov != z {
				t.Fatalf("a row of noughts: %+v", got.steps)
			}
		}
	}
	enough(t, "answered", asked, 1500)
}

// sure is p * r / (h * h * p + r), taken exactly.
func sure(p, r, h float64) *big.Rat {
	below := new(big.Rat).Mul(fraction(h), fraction(h))
	below.Mul(below, fraction(p)).Add(below, fraction(r))
	above := new(big.Rat).Mul(fraction(p), fraction(r))
	return above.Quo(above, below)
}

// isNear tells whether x lies within 16 * 2^-53 * e of e.
func isNear(x float64, e *big.Rat) bool {
	gap := new(big.Rat).Sub(fraction(x), e)
	return gap.Abs(gap).Cmp(new(big.Rat).Mul(e, big.NewRat(16, 1<<53))) <= 0
}

// withinEnds tells whether a number lies from 2^-100 to 2^100.
func withinEnds(x *big.Rat) bool {
	end := new(big.Rat).SetInt(new(big.Int).Lsh(big.NewInt(1), 100))
	return x.Cmp(end) <= 0 && x.Cmp(new(big.Rat).Inv(end)) >= 0
}

// P15.11: of one number: how sure it is behind a row, held exactly; at the ends that the chapter names too.
func TestSure(t *testing.T) {
	r := rand.New(rand.NewSource(15111))
	asked, ends := 0, 0
	for range 60000 {
		p, variance, h := between(r, -100, 100), between(r, -100, 100), signed(r, between(r, -50, 50))
		switch r.Intn(4) {
		case 0:
			p, variance = oneOf(r, 0x1p-100, 0x1p100, p), oneOf(r, 0x1p-100, 0x1p100, variance)
			h = oneOf(r, 0x1p-50, -0x1p-50, 0x1p50, -0x1p50, h)
		case 1, 2:
			// Near to h * h * p being 2^20 * r, and about as great as it.
			variance = math.Ldexp(float64(float64(h*h)*p), -r.Intn(22)) * (1 + r.Float64())
		}
		square := new(big.Rat).Mul(fraction(h), fraction(h))
		if !withinEnds(fraction(p)) || !withinEnds(fraction(variance)) || !withinEnds(square) || square.Mul(square, fraction(p)).Cmp(new(big.Rat).Mul(fraction(variance), big.NewRat(1<<20, 1))) > 0 {
			continue
		}
		asked++
		if square.Cmp(new(big.Rat).Mul(fraction(variance), big.NewRat(1<<18, 1))) > 0 {
			ends++
		}
		got := askUpdate(one(r.NormFloat64(), p), list(h), variance, r.NormFloat64())
		if got.err != api.OK || !isNear(got.s.P.At[0], sure(p, variance, h)) {
			t.Fatalf("variance %x, row %x with %x: %+v", p, h, variance, got)
		}
	}
	enough(t, "asked", asked, 20000)
	enough(t, "near the end", ends, 1000)
	if isNear(0.8+0x12p-53, big.NewRat(4, 5)) || !isNear(0.8+0xcp-53, big.NewRat(4, 5)) || !isNear(0.8-0xcp-53, big.NewRat(4, 5)) || isNear(0.8-0x10p-53, big.NewRat(4, 5)) {
		t.Error("the bound isn't held")
	}
}

// P15.12: the unit matrix and noughts, of either sign: the state, its noughts +0.
func TestStandingStill(t *testing.T) {
	r := rand.New(rand.NewSource(1512))
	minuses := 0
	plain := func(l []float64) (out []float64) {
		for _, x := range l {
			if x == 0 && math.Signbit(x) {
				minuses++
			}
			out = append(out, x+0)
		}
		return out
	}
	for round := range 1500 {
		n := oneOf(r, r.Intn(5), r.Intn(13))
		s := fitState(r, round%kinds, n)
		for i := range n {
			if i > 0 && r.Intn(3) == 0 {
				// A number that hangs together with no other one.
				for j := range n {
					if j != i {
						nought := oneOf(r, 0, minus)
						s.P.At[i*n+j], s.P.At[j*n+i] = nought, nought
					}
				}
				s.X[i] = oneOf(r, s.X[i], minus)
			}
		}
		want := answer{s: api.State{X: plain(s.X), P: mat(n, n, plain(s.P.At)...)}}
		hold(t, told{"standing still", askPredict(s, unit(n), noughts(n)), want})
		if n > 0 {
			hold(t, told{"still by a motion", saysState(kalman.Move(s, motion(part(api.KindStill, n, 1, 0)), end)), want})
		}
	}
	enough(t, "noughts of minus", minuses, 300)
}
