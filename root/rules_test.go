package root_test

import (
	"math"
	"math/big"
	"math/rand"
	"testing"

	"binnacle/api"
	"binnacle/root"
)

// squareOfL is L L' in whole numbers, times one power of 2.
func squareOfL(l api.Mat) []*big.Int {
	n, a := l.Rows, wholes(l.At)
	out := make([]*big.Int, n*n)
	for i := range n {
		for j := range n {
			x := new(big.Int)
			for k := range n {
				x.Add(x, new(big.Int).Mul(a[i*n+k], a[j*n+k]))
			}
			out[i*n+j] = x
		}
	}
	return out
}

// P16.7: every root that a call answers passes Check, the oracle's too, and its exact square is positive. A root goes on from one call to the next, as far as it is let.
func TestPositiveByItself(t *testing.T) {
	r := rand.New(rand.NewSource(167))
	answered, refused := map[string]int{}, 0
	for round := range 250 {
		n := 1 + round%7
		s := fitRoot(r, round%kinds, n)
		for range 25 {
			q := fitQuestion(r, kindMild, n)
			q.s = s
			c := callOf(oneOf(r, "Of", "Predict", "Move", "Update", "Rows"))
			got := c.ask(q)
			if got.err != api.OK {
				refused++
				continue
			}
			answered[c.name]++
			words := reckoned(func() answer {
				wordsOfCheck(got.s)
				return answer{}
			})
			if root.Check(got.s) != api.OK || words.err != api.OK || !isPositive(n, squareOfL(got.s.L)) {
				t.Fatalf("%s of %+v: %+v", c.name, q, got.s)
			}
			s = got.s
		}
	}
	for _, name := range []string{"Of", "Predict", "Move", "Update", "Rows"} {
		enough(t, name, answered[name], 200)
	}
	enough(t, "refused", refused, 300)
}

// sizedRoot is a root all of whose numbers are 0 or from 2^-200 to 2^200 in amount, of one size, of any, or by rows.
func sizedRoot(r *rand.Rand, n int) api.Root {
	l := noughts(n)
	kind := r.Intn(5)
	for i := range n {
		low, high := -3, 3
		switch kind {
		case 1:
			low, high = -200, 199
		case 2:
			low = r.Intn(390) - 200
			high = low + 8
		case 3:
			low, high = oneOf(r, -200, 199), -200
			high = low
		}
		for j := range i + 1 {
			l.At[i*n+j] = signed(r, between(r, low, high))
			if i == j {
				l.At[i*n+j] = math.Abs(l.At[i*n+j])
			} else if r.Intn(5) == 0 {
				l.At[i*n+j] = oneOf(r, 0, minus, l.At[j*n+j], oneOf(r, 0x1p-200, -0x1p200))
			}
		}
	}
	return api.Root{X: make([]float64, n), L: l}
}

// sizedRow is a row for P16.8 with its variance, often near the end that its premise sets.
func sizedRow(r *rand.Rand, e []*big.Float) (h []float64, variance float64) {
	h = make([]float64, len(e))
	// The sum of what is seen is about 2^by.
	by := oneOf(r, r.Intn(360)-180, r.Intn(20)-10)
	seen := 0.0
	for i := range h {
		length, _ := e[i].Float64()
		share := oneOf(r, r.Float64(), 1, 0, math.Ldexp(1, -r.Intn(80)))
		h[i] = signed(r, math.Ldexp(share/length, by))
		seen += share
	}
	sees := math.Ldexp(seen, by)
	root := sees / 256
	switch r.Intn(3) {
	case 0:
		root *= 1 + 0x1p-40
	case 1:
		root *= math.Ldexp(1+r.Float64(), r.Intn(20))
	case 2:
		root *= 1 + r.Float64()
	}
	return h, min(0x1p200, max(0x1p-200, float64(root*root)))
}

// P16.8, P16.12: held exactly, near the ends of what they ask, too.
func TestItIsTheFilter(t *testing.T) {
	r := rand.New(rand.NewSource(168))
	asked, ends := 0, 0
	for round := range 6000 {
		n := 1 + round%5
		if round%200 == 0 {
			n = 12
		}
		s := sizedRoot(r, n)
		e := lengths(exactMat(s.L))
		h, variance := sizedRow(r, e)
		if !isSized(s.L.At...) || !isSized(variance) || !seesLittle(e, h, variance) {
			continue
		}
		asked++
		if !seesLittle(e, h, variance/1.01) {
			ends++
		}
		got := askUpdate(s, h, variance, 1)
		if got.err != api.OK {
			// What goes over is the score alone, or where the means go.
			if got.err != api.ErrOver {
				t.Fatalf("a row %x with %x of %x: error %d", h, variance, s.L.At, got.err)
			}
			asked--
			continue
		}
		after := squared(exactMat(got.s.L))
		exact, by := behind(s.L, h, variance)
		if !isWithin(scaledBy(after, by), exact, e, by) {
			t.Fatalf("a row %x with %x of %x: %x", h, variance, s.L.At, got.s.L.At)
		}
		before := squared(exactMat(s.L))
		for i := range n {
			most := before.get(i, i)
			if after.get(i, i).Cmp(sum(most, byTwo(most, -36))) > 0 {
				t.Fatalf("less is known of %d: a row %x with %x of %x: %x", i, h, variance, s.L.At, got.s.L.At)
			}
		}
	}
	enough(t, "asked", asked, 3000)
	enough(t, "near the end", ends, 500)
}

// What tells whether two are within the bound holds it on both sides.
func TestBound(t *testing.T) {
	e := []*big.Float{exactly(2)}
	of := func(x float64) grid { return exactMat(square(x)) }
	for _, c := range []struct {
		a, b, by float64
		is       bool
	}{
		{1, 1, 1, true}, {1, 1 + 0x1p-34, 1, true}, {1 + 0x1p-34, 1, 1, true}, {1, 1 + 0x1.001p-34, 1, false}, {1 + 0x1.001p-34, 1, 1, false}, {3, 3 + 0x1p-33, 2, true}, {3, 3 - 0x1.001p-33, 2, false},
	} {
		if isWithin(of(c.a), of(c.b), e, exactly(c.by)) != c.is {
			t.Errorf("%+v", c)
		}
	}
	p, variance := behind(square(2), list(1), 1)
	if p.get(0, 0).Cmp(exactly(4)) != 0 || variance.Cmp(exactly(5)) != 0 {
		t.Error("4 / 5 behind the chapter's first example:", p.get(0, 0), variance)
	}
	if !seesLittle(e, list(128), 1) || seesLittle(e, list(math.Nextafter(128, 200)), 1) || seesLittle(e, list(-128), math.Nextafter(1, 0)) {
		t.Error("what a row sees")
	}
	if !isSized(0, 0x1p-200, -0x1p200, 1, minus) || isSized(0x1.8p200) || isSized(-0x1p-201) {
		t.Error("sizes")
	}
}

// sizedMat is a matrix all of whose numbers are 0 or from 2^-200 to 2^200 in amount.
func sizedMat(r *rand.Rand, rows, cols int) api.Mat {
	m := mat(rows, cols)
	low, high := -3, 3
	if r.Intn(3) == 0 {
		low, high = -200, 199
	}
	for range rows * cols {
		m.At = append(m.At, oneOf(r, 0, minus, signed(r, between(r, low, high)), signed(r, between(r, low, high)), signed(r, between(r, low, high)), float64(r.Intn(5)-2)))
	}
	return m
}

// farthest is P16.9's e: by how much the rows of f take those of L, and how long those of g are.
func farthest(f, l, g api.Mat) []*big.Float {
	of, out := lengths(exactMat(l)), lengths(exactMat(g))
	for i := range f.Rows {
		for k, x := range rowOf(f, i) {
			by := new(big.Float).SetPrec(roomFor).Mul(of[k], amount(exactly(x)))
			out[i].Add(out[i], by)
		}
	}
	return out
}

// P16.9: held exactly.
func TestMoved(t *testing.T) {
	r := rand.New(rand.NewSource(169))
	asked, refused := 0, 0
	for round := range 3000 {
		n := 1 + round%5
		if round%200 == 0 {
			n = 12
		}
		s := sizedRoot(r, n)
		f, g := sizedMat(r, n, n), sizedMat(r, n, oneOf(r, n, 0, 1, 12))
		switch r.Intn(5) {
		case 0:
			f = unit(n)
		case 1:
			// What two rows have nearly alike falls out.
			copy(rowOf(f, n-1), rowOf(f, 0))
			f.At[n*n-1] *= 1 + 0x1p-52
		}
		if !isSized(s.L.At...) || !isSized(f.At...) || !isSized(g.At...) {
			continue
		}
		got := askPredict(s, f, g)
		if got.err != api.OK {
			if got.err != api.ErrTriangle {
				t.Fatalf("f %x, g %x of %x: error %d", f.At, g.At, s.L.At, got.err)
			}
			refused++
			continue
		}
		asked++
		exact := added(squared(joined(exactMat(f), exactMat(s.L))), squared(exactMat(g)))
		if !isWithin(squared(exactMat(got.s.L)), exact, farthest(f, s.L, g), exactly(1)) {
			t.Fatalf("f %x, g %x of %x: %x", f.At, g.At, s.L.At, got.s.L.At)
		}
	}
	enough(t, "asked", asked, 1500)
	enough(t, "refused", refused, 30)
}

// P16.10: a row of noughts, of either sign, leaves L and the means as they are, but for the sign of noughts; Var is r.
func TestBlind(t *testing.T) {
	r := rand.New(rand.NewSource(1610))
	asked := 0
	for round := range 1500 {
		n := r.Intn(8)
		s := fitRoot(r, round%kinds, n)
		h := make([]float64, n)
		for i := range h {
			h[i] = oneOf(r, 0, minus)
		}
		variance, z := fitVariance(r), oneOf(r, anyFinite(r), r.NormFloat64())
		for _, got := range []answer{askUpdate(s, h, variance, z), askRows(s, mat(1, n, h...), list(variance), list(z))} {
			if got.err != api.OK {
				// What goes over is the score alone.
				if got.err != api.ErrOver || isFinite(float64(z*z)/variance) {
					t.Fatalf("a row of noughts, variance %g, value %g: error %d", variance, z, got.err)
				}
				continue
			}
			asked++
			for i, x := range s.L.At {
				if got.s.L.At[i] != x {
					t.Fatalf("a row of noughts changes %x into %x", s.L.At, got.s.L.At)
				}
			}
			for i, x := range s.X {
				if got.s.X[i] != x || got.steps[0].Gain[i] != 0 {
					t.Fatalf("a row of noughts changes %v into %v", s.X, got.s.X)
				}
			}
			if got.steps[0].Var != variance || got.steps[0].Innov != z {
				t.Fatalf("a row of noughts: %+v", got.steps)
			}
		}
		if got := askForesee(s, h, variance); got.err != api.OK || got.y != variance || got.x != 0 {
			t.Fatalf("a row of noughts is foreseen: %+v", got)
		}
	}
	enough(t, "answered", asked, 1500)
}

// P16.11: however the rows are cut in two, bit by bit; where one of the two is refused, the other is, too.
func TestOneByOne(t *testing.T) {
	r := rand.New(rand.NewSource(1611))
	whole, spoilt, other := 0, 0, 0
	for round := range 500 {
		n := r.Intn(6)
		q := fitQuestion(r, round%kinds, n)
		rows := 1 + r.Intn(12)
		q.rows, q.rs, q.zs = mat(rows, n), nil, nil
		for range rows {
			q.rows.At = append(q.rows.At, oneOf(r, fitRow(r, n), filled(n, 1), filled(n, 0.5))...)
			q.rs, q.zs = append(q.rs, oneOf(r, 1, between(r, -4, 4))), append(q.zs, r.NormFloat64())
		}
		if r.Intn(3) == 0 {
			q.rs[r.Intn(rows)] = oneOf(r, 0, nan, most)
		}
		if n > 0 && r.Intn(8) == 0 {
			q.rows.At[r.Intn(rows*n)] = oneOf(r, unfit()...)
		}
		all := askRows(q.s, q.rows, q.rs, q.zs)
		looked := isFiniteList(q.rows.At)
		for cut := range rows + 1 {
			first := askRows(q.s, mat(cut, n, q.rows.At[:cut*n]...), q.rs[:cut], q.zs[:cut])
			last := first
			if first.err == api.OK {
				last = askRows(first.s, mat(rows-cut, n, q.rows.At[cut*n:]...), q.rs[cut:], q.zs[cut:])
			}
			switch {
			case !looked:
				// All numbers are looked at first.
				other++
				hold(t, told{"a number", all, fault(api.ErrNumber)})
				if last.err == api.OK {
					t.Fatalf("the whole is refused, cut at %d it isn't: %+v", cut, q)
				}
			case first.err != api.OK:
				spoilt++
				hold(t, told{"refused by the first ones", first, all})
			case last.err != api.OK:
				spoilt++
				hold(t, told{"refused by the last ones", faultAt(last.place+cut, last.err), all})
			default:
				whole++
				last.steps = append(first.steps, last.steps...)
				hold(t, told{"in two", last, all})
			}
		}
	}
	enough(t, "answered", whole, 500)
	enough(t, "refused", spoilt, 300)
	enough(t, "a number", other, 100)
}

// P16.12: with rows one behind the other, none of which sees too much, no number's exact variance rises but by its last bits.
func TestLessIsUnsure(t *testing.T) {
	r := rand.New(rand.NewSource(1612))
	asked := 0
	for round := range 150 {
		n := 1 + round%4
		s := sizedRoot(r, n)
		for range 12 {
			e := lengths(exactMat(s.L))
			h, variance := sizedRow(r, e)
			if !isSized(s.L.At...) || !isSized(variance) || !seesLittle(e, h, variance) {
				continue
			}
			got := askUpdate(s, h, variance, 0)
			if got.err != api.OK {
				continue
			}
			asked++
			before, after := squared(exactMat(s.L)), squared(exactMat(got.s.L))
			for i := range n {
				most := before.get(i, i)
				if after.get(i, i).Cmp(sum(most, byTwo(most, -36))) > 0 {
					t.Fatalf("less is known of %d: a row %x with %x of %x: %x", i, h, variance, s.L.At, got.s.L.At)
				}
			}
			s = api.Root{X: make([]float64, n), L: got.s.L}
		}
	}
	enough(t, "asked", asked, 500)
}
