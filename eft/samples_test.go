package eft_test

import (
	"math"
	"math/rand"
	"testing"

	"binnacle/api"
)

var (
	inf   = math.Inf(1)
	minus = math.Copysign(0, -1)
)

const most = math.MaxFloat64

// notFinite are infinities and NaNs.
func notFinite() []float64 {
	out := []float64{inf, -inf}
	for _, f := range []uint64{1, 1 << 51, 1<<51 + 1, 1<<52 - 1} {
		out = append(out, math.Float64frombits(0x7ff<<52|f), math.Float64frombits(0xfff<<52|f))
	}
	return out
}

// edges are finite numbers at and beside the places that the chapter names.
func edges() []float64 {
	out := []float64{0, minus}
	for _, x := range []float64{
		0x1p-1074, 0x3p-1074, 0x1p-1023, 0x1p-1022, 0x1p-1021, 0x1p-600, 0x1p-537, 0x1p-538, 0x1p-60, 0x1p-53, 0x1p-52,
		0.1, 0.5, 1, 1.5, 3, 10, 1 << 26, 1<<26 + 1, 1 << 27, 1<<27 - 1, 1<<27 + 1, 1 << 53, 1<<53 - 1, 1 << 60,
		0x1p485, 0x1p510, 0x1p511, 0x1p512, 0x1p969, 0x1p970, 0x1p971, 0x1p994, 0x1p995, 0x1p996, 0x1p997, 0x1p1000, 0x1p1021, 0x1p1022, 0x1p1023, most,
	} {
		for _, y := range []float64{math.Nextafter(x, 0), x, math.Nextafter(x, most)} {
			out = append(out, y, -y)
		}
	}
	return out
}

// chance is any finite number.
func chance(r *rand.Rand) float64 {
	for {
		x := math.Float64frombits(r.Uint64())
		if !math.IsNaN(x) && !math.IsInf(x, 0) {
			return x
		}
	}
}

// digits is a number of so many digits at most, the last of them 2^exp or more.
func digits(r *rand.Rand, n, exp int) float64 {
	x := math.Ldexp(float64(r.Int63n(1<<n)|1), exp)
	if r.Intn(2) == 0 {
		return -x
	}
	return x
}

// pairs are two finite numbers each: the edges, near ones, those that end half a digit beyond each other, any.
func pairs() [][2]float64 {
	var out [][2]float64
	list := edges()
	for _, a := range list {
		for _, b := range list {
			out = append(out, [2]float64{a, b})
		}
	}
	r := rand.New(rand.NewSource(1))
	for range 20000 {
		exp := r.Intn(1900) - 1074
		a := digits(r, 1+r.Intn(53), exp)
		b := digits(r, 1+r.Intn(53), max(exp+r.Intn(120)-60, -1074))
		out = append(out, [2]float64{a, b}, [2]float64{a, -a}, [2]float64{chance(r), chance(r)})
		low := r.Intn(80) - 1074 - 537 + r.Intn(3)*300
		out = append(out, [2]float64{digits(r, 1+r.Intn(53), low/2), digits(r, 1+r.Intn(53), low-low/2)})
	}
	return out
}

// anyPairs are pairs with infinities and NaNs among them.
func anyPairs() [][2]float64 {
	out := pairs()
	list := append(edges(), notFinite()...)
	for _, a := range notFinite() {
		for _, b := range list {
			out = append(out, [2]float64{a, b}, [2]float64{b, a})
		}
	}
	return out
}

// ladder is an expansion of n numbers (fewer, if they would grow too great) of so many digits at most, its last digit 2^low, with so many places free between two.
func ladder(r *rand.Rand, n, size, gap, low int) []float64 {
	out := make([]float64, 0, n)
	for range n {
		if low+size > 1023 {
			break
		}
		x := digits(r, size, low)
		out = append(out, x)
		_, low = math.Frexp(x)
		if gap > 0 {
			low += r.Intn(gap + 1)
		}
	}
	return out
}

// powers are so many powers of 2, so many places from one to the next.
func powers(n, step, low int) []float64 {
	out := make([]float64, n)
	for i := range out {
		out[i] = math.Ldexp(1, low+i*step)
	}
	return out
}

// expansions are ones of all kinds.
func expansions() [][]float64 {
	out := [][]float64{nil, {}, {1}, {-1}, {0x1p-1074}, {most}, {-most}, {1, 2}, {-1, 2}, {1, -2}, {0x1p-1074, 0x1p-1073}, {0x1p-1074, most},
		{0x1p969, most}, {-0x1p969, most}, {0x1p970, most}, {-0x1p970, most}, {0x1p970, -most}, {math.Nextafter(0x1p970, 0), most}, {0x1p-1074, 0x1p970, most},
		{1, 2, 4, 8, 16}, {-1, 2, -4, 8, -16}, {1, 0x1p60}, {1<<53 - 1, 0x1p53}, {1<<53 - 1, -0x1p53, 0x1p54},
		powers(64, 1, 0), powers(64, 1, -1074), powers(64, 1, 960), powers(64, 32, -1000), powers(64, 33, -1074), powers(63, 2, 5), powers(64, 2, -20)}
	r := rand.New(rand.NewSource(2))
	for range 60 {
		n := 1 + r.Intn(12)
		out = append(out,
			ladder(r, n, 53, 0, -r.Intn(300)),
			ladder(r, n, 1+r.Intn(20), 0, -r.Intn(300)),
			ladder(r, n, 1+r.Intn(53), 60, -r.Intn(900)),
			ladder(r, n, 1+r.Intn(53), 3, -1074),
			ladder(r, n, 1+r.Intn(53), 1, 1022-54*n))
	}
	for range 10 {
		out = append(out,
			ladder(r, 64, 1+r.Intn(31), 0, -1074+r.Intn(100)),
			ladder(r, 63, 1+r.Intn(20), 4, -r.Intn(800)),
			ladder(r, 64, 1+r.Intn(53), 0, 0),
			ladder(r, 64, 1, 0, 900))
	}
	return out
}

// noExpansions are finite lists of at most 64 numbers that are none.
func noExpansions() [][]float64 {
	out := [][]float64{{0}, {minus}, {1, 0}, {0, 1}, {1, minus, 4}, {1, 1}, {1, -1}, {2, 1}, {1, 3}, {3, 4, 2}, {1, 2, 2}, {1, 2, 6}, {4, 12}, {-4, 12}, {2, 3},
		{0x1p-1074, 0x3p-1074}, {0x1p-1074, 0x1p-1074}, {0x1p971, most}, {most, most}, {most, 1}, {1 << 53, 1<<53 - 1}, {1 << 53, 1 << 53}, {1, 1<<52 + 1}, make([]float64, 64)}
	for _, place := range []int{0, 31, 62} {
		l := powers(64, 3, 0)
		l[place] = l[place+1]
		out = append(out, l)
		l = powers(64, 3, 0)
		l[place+1] += l[place+1] / 8
		out = append(out, l)
	}
	return out
}

// others are numbers that an expansion is grown and scaled by.
func others(r *rand.Rand, e []float64) []float64 {
	out := []float64{0, minus, 1, -1, 3, 0.5, 0.1, 0x1p-1074, 0x1p60, 1<<53 - 1, 0x1p-500, 0x1p995, 0x1p996, 0x1p997, most, -most, 0x1p970, -0x1p969, chance(r), digits(r, 53, r.Intn(100)-50), digits(r, 20, r.Intn(200)-100)}
	for range min(len(e), 4) {
		x := e[r.Intn(len(e))]
		out = append(out, x, -x, x/2, -2*x, x*(1+0x1p-20))
	}
	kept := out[:0]
	for _, x := range out {
		if !math.IsInf(x, 0) {
			kept = append(kept, x)
		}
	}
	return kept
}

// listed is a list beside its error.
type listed struct {
	l   []float64
	err api.Errno
}

func list(l []float64, err api.Errno) listed { return listed{l, err} }

func (a listed) is(b listed) bool { return a.err == b.err && sameList(a.l, b.l) }

// refused tells that an error stands beside the zero value.
func (a listed) refused(err api.Errno) bool { return a.err == err && a.l == nil }

func same(a, b float64) bool { return math.Float64bits(a) == math.Float64bits(b) }

func sameList(a, b []float64) bool {
	if len(a) != len(b) {
		return false
	}
	for i := range a {
		if !same(a[i], b[i]) {
			return false
		}
	}
	return true
}

// few stops a test that has found enough.
func few(t *testing.T, wrong *int) {
	t.Helper()
	if *wrong++; *wrong > 10 {
		t.FailNow()
	}
}
