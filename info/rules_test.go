package info_test

import (
	"math"
	"math/big"
	"math/rand"
	"slices"
	"testing"

	"binnacle/api"
	"binnacle/info"
	"binnacle/kalman"
)

// passes tells whether all that an answer holds may be, by the program and by the oracle.
func passes(a answer) bool {
	words := reckoned(func() answer {
		wordsOfCheck(a.a)
		wordsOfCheckRoot(a.root)
		return answer{}
	})
	return words.err == api.OK && info.Check(a.a) == api.OK && info.CheckRoot(a.root) == api.OK && kalman.Check(a.s) == api.OK
}

// P17.8: every information, root and state that a call answers passes its Check. They go on from one call to the next, as far as they are let.
func TestPositiveAlways(t *testing.T) {
	r := rand.New(rand.NewSource(178))
	answered, refused := map[string]int{}, 0
	names := []string{"Of", "State", "Update", "Rows", "Join", "Predict", "RootOf", "Unroot", "UpdateRoot"}
	for round := range 250 {
		n := 1 + round%7
		kept := fitQuestion(r, round%kinds, n)
		for range 30 {
			q := fitQuestion(r, oneOf(r, kindMild, round%kinds), n)
			q.a, q.s, q.root = kept.a, kept.s, kept.root
			if r.Intn(8) == 0 {
				q.h = greatRow(r, n)
			}
			c := callOf(oneOf(r, names...))
			got := c.ask(q)
			if got.err != api.OK {
				refused++
				continue
			}
			answered[c.name]++
			if !passes(got) {
				t.Fatalf("%s of %+v: %+v", c.name, q, got)
			}
			switch c.name {
			case "State":
				kept.s = got.s
			case "RootOf", "UpdateRoot":
				kept.root = got.root
			default:
				kept.a = got.a
			}
		}
	}
	for _, name := range names {
		enough(t, name, answered[name], 200)
	}
	enough(t, "refused", refused, 300)
}

func fraction(x float64) *big.Rat { return new(big.Rat).SetFloat64(x) }

// isNear tells whether x and y differ by at most 5 * 2^-53 times the sum of what was added in amount.
func isNear(x, y float64, added ...float64) bool {
	bound := new(big.Rat)
	for _, a := range added {
		bound.Add(bound, fraction(math.Abs(a)))
	}
	bound.Mul(bound, big.NewRat(5, 1<<53))
	gap := new(big.Rat).Sub(fraction(x), fraction(y))
	return gap.Abs(gap).Cmp(bound) <= 0
}

// P17.9: Join of two is Join of them the other way, bit by bit.
func TestEitherWay(t *testing.T) {
	r := rand.New(rand.NewSource(1791))
	answered, refused := 0, map[api.Errno]int{}
	for round := range 3000 {
		n := oneOf(r, 0, 1, 2, 2, 3, 4, r.Intn(13))
		a, b := fitInfo(r, round%kinds, n), fitInfo(r, r.Intn(kinds), n)
		switch r.Intn(20) {
		case 0:
			a.V, b.V = filled(n, most), filled(n, most)
		case 1, 2:
			a, b = information(numbers(r, 2), 1, 1, 1, 1+0x1p-52), information(numbers(r, 2), 0x1p53, 0x1p53-1, 0x1p53-1, 0x1p53-1)
		case 3, 4:
			b = fitInfo(r, r.Intn(kinds), min(n+1, 12))
		}
		got := askJoin(a, b)
		hold(t, told{"either way", askJoin(b, a), got})
		if got.err == api.OK {
			answered++
		}
		refused[got.err]++
	}
	enough(t, "answered", answered, 1500)
	for _, err := range errs(api.ErrInfo, api.ErrShape, api.ErrOver) {
		enough(t, "refused", refused[err], 10)
	}
}

// P17.9: what is added first changes no number by more than the bound, exactly.
func TestAdded(t *testing.T) {
	r := rand.New(rand.NewSource(1792))
	asked, unlike := 0, 0
	for round := range 4000 {
		n := oneOf(r, 1, 2, 2, 3, 4, 1+r.Intn(12))
		a, b := fitInfo(r, round%kinds, n), fitInfo(r, oneOf(r, round%kinds, r.Intn(kinds)), n)
		h, variance, z := fitRow(r, n), oneOf(r, 1, between(r, -4, 4), fitVariance(r)), oneOf(r, r.NormFloat64(), anyFinite(r))
		later, joined := askUpdate(b, h, variance, z), askJoin(a, b)
		if later.err != api.OK || joined.err != api.OK {
			continue
		}
		one, other := askJoin(a, later.a), askUpdate(joined.a, h, variance, z)
		if one.err != api.OK || other.err != api.OK {
			continue
		}
		asked++
		if !sameInfo(one.a, other.a) {
			unlike++
		}
		for i := range n {
			for j := range n {
				k := i*n + j
				if !isNear(one.a.Y.At[k], other.a.Y.At[k], a.Y.At[k], b.Y.At[k], float64(h[i]*h[j])/variance) {
					t.Fatalf("Y(%d, %d) of %+v and %+v with %v, %v, %v", i, j, a, b, h, variance, z)
				}
			}
			if !isNear(one.a.V[i], other.a.V[i], a.V[i], b.V[i], float64(h[i]*z)/variance) {
				t.Fatalf("V(%d) of %+v and %+v with %v, %v, %v", i, a, b, h, variance, z)
			}
		}
	}
	enough(t, "asked", asked, 1500)
	enough(t, "unlike", unlike, 500)
	if !isNear(1, 1+0x5p-52, 1, -0.5, 0.5) || isNear(1, 1+0x6p-52, 1, -0.5, 0.5) || isNear(1+0x6p-52, 1, 0.25, 1.75, 0) || isNear(0, least, 0) || !isNear(least, least, 0) {
		t.Error("the bound isn't held")
	}
}

// P17.9: where Rows answers, it is one Update behind the other, however the rows are cut in two; a row that is refused is the same row behind the ones ahead of it.
func TestOneByOne(t *testing.T) {
	r := rand.New(rand.NewSource(1793))
	whole, spoilt := 0, 0
	for round := range 400 {
		n := r.Intn(6)
		a := fitInfo(r, round%kinds, n)
		rows := 1 + r.Intn(12)
		h, rs, zs := mat(rows, n), list(), list()
		for range rows {
			h.At = append(h.At, oneOf(r, fitRow(r, n), filled(n, 1), filled(n, 0.5))...)
			rs, zs = append(rs, oneOf(r, 1, between(r, -4, 4))), append(zs, r.NormFloat64())
		}
		if r.Intn(3) == 0 {
			rs[r.Intn(rows)] = oneOf(r, 0, nan, least)
		}
		all := askRows(a, h, rs, zs)
		one := answer{a: a}
		for i := 0; i < rows && one.err == api.OK; i++ {
			one = askUpdate(one.a, rowOf(h, i), rs[i], zs[i])
			one.place = i
		}
		if one.err == api.OK {
			one.place = 0
		}
		hold(t, told{"one by one", all, one})
		for cut := range rows + 1 {
			first := askRows(a, mat(cut, n, h.At[:cut*n]...), rs[:cut], zs[:cut])
			if first.err != api.OK {
				hold(t, told{"refused by the first ones", first, all})
				continue
			}
			last := askRows(first.a, mat(rows-cut, n, h.At[cut*n:]...), rs[cut:], zs[cut:])
			if last.err != api.OK {
				spoilt++
				last.place += cut
			} else {
				whole++
			}
			hold(t, told{"in two", last, all})
		}
	}
	enough(t, "answered", whole, 1000)
	enough(t, "refused", spoilt, 200)
}

// isKept tells whether a diagonal number of a root is no smaller behind an update, but for 4 * 2^-53 of it.
func isKept(before, after float64) bool {
	least := new(big.Rat).Mul(fraction(before), big.NewRat(1<<53-4, 1<<53))
	return fraction(after).Cmp(least) >= 0
}

// diagonalOf is a root's.
func diagonalOf(a api.RootInfo) (out []float64) {
	for i := range a.Z {
		out = append(out, rowOf(a.R, i)[i])
	}
	return out
}

// seenRoot is a root for P17.10, its diagonal often at the end that the rule names, and a row that tells much of it, little, or nearly nothing.
func seenRoot(r *rand.Rand, n int) (api.RootInfo, []float64) {
	a := fitRoot(r, r.Intn(kinds), n)
	h := fitRow(r, n)
	if r.Intn(2) == 0 {
		for i := range n {
			p := oneOf(r, 0x1p-450, math.Nextafter(0x1p-450, 1), between(r, -450, -440), between(r, -450, 500), between(r, -2, 2))
			a.R.At[i*n+i] = p
			h[i] = signed(r, oneOf(r, p, p*r.Float64(), math.Ldexp(p, -r.Intn(80)), p*0x1p-27, 0, math.Ldexp(p, r.Intn(40))))
			for j := i + 1; j < n; j++ {
				a.R.At[i*n+j] = signed(r, oneOf(r, 0, p, p*r.Float64()))
			}
		}
	}
	return a, h
}

// P17.10: no diagonal number whose square is at least 2^-900 comes out smaller, but for its last bits.
func TestNoneIsSmaller(t *testing.T) {
	r := rand.New(rand.NewSource(1710))
	asked, ends := 0, 0
	for range 12000 {
		n := oneOf(r, 1, 1, 2, 3, 4, 1+r.Intn(12))
		a, h := seenRoot(r, n)
		a.Z = make([]float64, n)
		got := askUpdateRoot(a, h, oneOf(r, 1, 1, between(r, -4, 4)), 0)
		if got.err != api.OK {
			continue
		}
		after := diagonalOf(got.root)
		for i, p := range diagonalOf(a) {
			if p < 0x1p-450 {
				continue
			}
			asked++
			if p < 0x1p-449 {
				ends++
			}
			if !isKept(p, after[i]) {
				t.Fatalf("%x comes out of %x: %x of %x", after[i], p, h, a.R.At)
			}
		}
	}
	enough(t, "asked", asked, 10000)
	enough(t, "near the end", ends, 1000)
	if !isKept(1, 1-0x4p-53) || isKept(1, 1-0x5p-53) || !isKept(2, 3) || !isKept(0x1p-450, 0x1p-450) {
		t.Error("the bound isn't held")
	}
}

// P17.10: a row of noughts, of either sign, changes nothing, and tells e = z / d.
func TestBlind(t *testing.T) {
	r := rand.New(rand.NewSource(17102))
	asked, over := 0, 0
	for round := range 2000 {
		n := r.Intn(13)
		a := fitRoot(r, round%kinds, n)
		if n > 1 {
			a.R.At[1], a.Z[0] = oneOf(r, minus, a.R.At[1]), oneOf(r, minus, a.Z[0])
		}
		h := make([]float64, n)
		for i := range h {
			h[i] = oneOf(r, 0, minus)
		}
		variance, z := fitVariance(r), oneOf(r, anyFinite(r), r.NormFloat64(), minus)
		want := answer{root: a, left: z / math.Sqrt(variance)}
		if !isFinite(want.left) {
			over++
			want = fault(api.ErrOver)
		} else {
			asked++
		}
		hold(t, told{"a row of noughts", askUpdateRoot(a, h, variance, z), want})
	}
	enough(t, "answered", asked, 1500)
	enough(t, "over", over, 20)
}

// farFrom is by how much two lists differ, beside the greatest amount in them.
func farFrom(a, b []float64) float64 {
	gap, most := 0.0, 0.0
	for i := range a {
		gap, most = max(gap, math.Abs(a[i]-b[i])), max(most, math.Abs(a[i]), math.Abs(b[i]))
	}
	return gap / max(most, 1)
}

// P17.5 to P17.7: the root is the information, and both are the filter, but for roundings: what the formulas say fits together.
func TestItIsOneFilter(t *testing.T) {
	r := rand.New(rand.NewSource(177))
	for range 1000 {
		n := 1 + r.Intn(5)
		s := api.State{X: make([]float64, n), P: positive(r, kindMild, n)}
		for i := range n {
			s.P.At[i*n+i] += 0.5
			s.X[i] = r.NormFloat64()
		}
		h, variance, z := make([]float64, n), between(r, -2, 2), r.NormFloat64()
		for i := range h {
			h[i] = r.NormFloat64()
		}
		want, _, err := kalman.Update(s, h, variance, z)
		a := askOf(s)
		root := askRootOf(a.a)
		later, turned := askUpdate(a.a, h, variance, z), askUpdateRoot(root.root, h, variance, z)
		got, squared := askState(later.a), askUnroot(turned.root)
		if slices.ContainsFunc([]api.Errno{err, a.err, root.err, later.err, turned.err, got.err, squared.err}, func(e api.Errno) bool { return e != api.OK }) {
			t.Fatalf("refused: %+v with %v, %v, %v", s, h, variance, z)
		}
		// What is left is the innovation, by its own standard deviation.
		foreseen, spread, _ := kalman.Foresee(s, h, variance)
		left := list(math.Abs(turned.left), math.Abs(z-foreseen)/math.Sqrt(spread))
		for _, far := range list(farFrom(got.s.X, want.X), farFrom(got.s.P.At, want.P.At), farFrom(squared.a.Y.At, later.a.Y.At), farFrom(squared.a.V, later.a.V), farFrom(askMeans(turned.root).x, want.X), farFrom(left[:1], left[1:])) {
			if far > 1e-9 {
				t.Fatalf("%g apart: %+v with %v, %v, %v", far, s, h, variance, z)
			}
		}
	}
}
