package sum_test

import (
	"cmp"
	"math"
	"math/big"
	"math/rand"
	"slices"
	"testing"

	"binnacle/api"
	"binnacle/sum"
)

// orders are a list's indexes in other orders: all of a few, some of many.
func orders(r *rand.Rand, n int) [][]int {
	at := make([]int, n)
	for i := range at {
		at[i] = i
	}
	if n <= 4 {
		return permuted(at)
	}
	back := slices.Clone(at)
	slices.Reverse(back)
	out := [][]int{back, append(slices.Clone(at[1:]), at[0])}
	for range 3 {
		out = append(out, r.Perm(n))
	}
	return out
}

func permuted(at []int) [][]int {
	if len(at) == 0 {
		return [][]int{nil}
	}
	var out [][]int
	for i, first := range at {
		for _, rest := range permuted(append(slices.Clone(at[:i]), at[i+1:]...)) {
			out = append(out, append([]int{first}, rest...))
		}
	}
	return out
}

func ordered(l []float64, at []int) []float64 {
	return fill(len(l), func(i int) float64 { return l[at[i]] })
}

// P5.10: Exact and Mean hang on no order; nor do they in the order of magnitudes or of values.
func TestNoOrder(t *testing.T) {
	r := rand.New(rand.NewSource(7))
	for _, l := range anyLists() {
		total, mean := told(sum.Exact(l)), told(sum.Mean(l))
		byValue, byAmount := slices.Clone(l), slices.Clone(l)
		slices.Sort(byValue)
		slices.SortFunc(byAmount, func(a, b float64) int { return cmp.Compare(math.Abs(a), math.Abs(b)) })
		others := [][]float64{byValue, byAmount}
		for _, at := range orders(r, len(l)) {
			others = append(others, ordered(l, at))
		}
		for _, other := range others {
			if a, b := told(sum.Exact(other)), told(sum.Mean(other)); !a.is(total) || !b.is(mean) {
				t.Fatalf("Exact, Mean of %x: %x, %x; of %x: %x, %x", brief(l), total, mean, brief(other), a, b)
			}
		}
	}
}

func TestNoOrderOfPairs(t *testing.T) {
	r := rand.New(rand.NewSource(8))
	for _, p := range pairsOf(anyLists()) {
		a, b := p[0], p[1]
		want := told(sum.DotExact(a, b))
		for _, at := range orders(r, len(a)) {
			if got := told(sum.DotExact(ordered(a, at), ordered(b, at))); !got.is(want) {
				t.Fatalf("DotExact of %x, %x: %x, in another order %x", brief(a), brief(b), want, got)
			}
		}
	}
}

// distance is how far a finite number is from a sum in 2^-1074.
func distance(x float64, from *big.Int) *big.Int {
	d := new(big.Int).Sub(units(x), from)
	return d.Abs(d)
}

// P5.10: where Exact is finite, neither neighbour is nearer, and of two as near the even one is taken.
func TestNoNumberIsNearer(t *testing.T) {
	seen := 0
	for _, l := range lists() {
		x, err := sum.Exact(l)
		if err != api.OK || math.IsInf(x, 0) {
			continue
		}
		seen++
		from := total(l)
		d := distance(x, from)
		for _, to := range []float64{math.Inf(1), math.Inf(-1)} {
			y := math.Nextafter(x, to)
			if math.IsInf(y, 0) {
				continue
			}
			if c := distance(y, from).Cmp(d); c < 0 || c == 0 && math.Float64bits(x)%2 != 0 {
				t.Errorf("Exact of %d numbers %x: %x, but %x is nearer or even", len(l), brief(l), x, y)
			}
		}
	}
	if seen < 500 {
		t.Errorf("only %d lists have a finite sum", seen)
	}
}

// a is the chapter's a(n): n * u / (1 - n * u), that is n / (2^53 - n).
func a(n int) *big.Rat { return big.NewRat(int64(n), 1<<53-int64(n)) }

// depth is the h of which 2^h is the least power of 2 that isn't below n.
func depth(n int) int {
	h := 0
	for 1<<h < n {
		h++
	}
	return h
}

// bound is the chapter's, in 2^-1074.
func bound(l []float64, way api.SumWay) *big.Rat {
	n := len(l)
	all := new(big.Rat).SetInt(amounts(l))
	rounding := new(big.Rat).SetInt(total(l))
	rounding.Mul(rounding.Abs(rounding), big.NewRat(1, 1<<53))
	switch way {
	case api.WayLeft:
		return all.Mul(all, a(n-1))
	case api.WayPairs:
		return all.Mul(all, a(depth(n)))
	case api.WayNeumaier:
		all.Mul(all, a(n-1))
		return rounding.Add(rounding, all.Mul(all, a(n-1)))
	}
	return rounding.Add(rounding, big.NewRat(1, 1))
}

// staysFinite tells whether each step of a way is finite.
func staysFinite(l []float64, way api.SumWay) bool {
	var s steps
	switch way {
	case api.WayLeft:
		s.left(l)
	case api.WayPairs:
		s.pairs(l)
	case api.WayNeumaier:
		s.neumaier(l)
	default:
		s.seen(exact(l).x)
	}
	return !s.over
}

// bounded are lists, those among them whose roundings all go one way.
func bounded() [][]float64 {
	r := rand.New(rand.NewSource(9))
	out := lists()
	for _, n := range append(counts(), 1000, 4095, 4096) {
		climb, fall := repeat(n, 0x1p-53), repeat(n, -0x1p-54)
		climb[0], fall[0] = 1, 1
		rise := repeat(n, 0x1p-53)
		rise[0] = 1 + 0x1p-52
		back := fill(n, func(int) float64 { return near(r, 0, 3) })
		back[n-1] -= sum.Left(back)
		out = append(out, climb, fall, rise, back, fill(n, func(i int) float64 { return math.Ldexp(1, -i%60) }), fill(n, func(i int) float64 { return 1 + float64(i%7)*0x1p-52 }))
	}
	return out
}

// P5.11, and that of nothing Off is 0 by each way.
func TestBounds(t *testing.T) {
	wrong := 0
	for _, way := range []api.SumWay{api.WayLeft, api.WayPairs, api.WayNeumaier, api.WayExact} {
		seen, off := 0, 0
		for _, l := range bounded() {
			if len(l) == 0 {
				if d, err := sum.Off(l, way); err != api.OK || d.Neg || len(d.Mag) > 0 || d.Exp != 0 {
					t.Errorf("Off of nothing by %d: %v, %d", way, d, err)
				}
				continue
			}
			if !staysFinite(l, way) {
				continue
			}
			d, err := sum.Off(l, way)
			amount, right := dyadUnits(d)
			if err != api.OK || !right {
				t.Fatalf("Off of %x by %d: %v, %d", brief(l), way, d, err)
			}
			if seen++; amount.Sign() != 0 {
				off++
			}
			if most := bound(l, way); new(big.Rat).SetInt(amount.Abs(amount)).Cmp(most) > 0 {
				t.Errorf("Off of %d numbers %x by %d: %v is beyond the bound", len(l), brief(l), way, d)
				few(t, &wrong)
			}
		}
		if seen < 500 || off < 200 {
			t.Errorf("way %d: %d lists, of which %d are off", way, seen, off)
		}
	}
}
