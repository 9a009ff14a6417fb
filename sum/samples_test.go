package sum_test

import (
	"math"
	"math/rand"
	"slices"
	"testing"

	"binnacle/api"
)

var (
	inf   = math.Inf(1)
	minus = math.Copysign(0, -1)
)

const (
	most  = math.MaxFloat64
	least = 0x1p-1074
)

// said is a number beside its error.
type said struct {
	x   float64
	err api.Errno
}

func told(x float64, err api.Errno) said { return said{x, err} }

func (a said) is(b said) bool { return a.err == b.err && same(a.x, b.x) }

// refused tells that an error stands beside +0.
func (a said) refused(err api.Errno) bool { return a.is(said{0, err}) }

// same tells of bits, those of NaNs too.
func same(a, b float64) bool { return math.Float64bits(a) == math.Float64bits(b) }

func sameList(a, b []float64) bool { return slices.EqualFunc(a, b, same) }

// few stops a test that has found enough.
func few(t *testing.T, wrong *int) {
	t.Helper()
	if *wrong++; *wrong > 10 {
		t.FailNow()
	}
}

// brief is the beginning of a list.
func brief(l []float64) []float64 { return l[:min(len(l), 8)] }

// wild are infinities and NaNs.
func wild() []float64 {
	out := []float64{inf, -inf}
	for _, f := range []uint64{1, 1 << 51, 1<<51 + 1, 1<<52 - 1} {
		out = append(out, math.Float64frombits(0x7ff<<52|f), math.Float64frombits(0xfff<<52|f))
	}
	return out
}

// edges are finite numbers at and beside the places that matter.
func edges() []float64 {
	out := []float64{0, minus}
	for _, x := range []float64{least, 0x3p-1074, 0x1p-1023, 0x1p-1022, 0x1p-538, 0x1p-537, 0x1p-53, 0x1p-52, 0.1, 0.5, 1, 1.5, 3, 1 << 53, 0x1p100, 0x1p511, 0x1p512, 0x1p969, 0x1p970, 0x1p971, 0x1p1022, 0x1p1023, most} {
		for _, y := range []float64{math.Nextafter(x, 0), x, math.Nextafter(x, most)} {
			out = append(out, y, -y)
		}
	}
	return out
}

// chance is any finite number.
func chance(r *rand.Rand) float64 {
	for {
		if x := math.Float64frombits(r.Uint64()); finite(x) {
			return x
		}
	}
}

// near is a number of 53 digits at most, with a sign, within so many places of 2^exp.
func near(r *rand.Rand, exp, places int) float64 {
	x := math.Ldexp(float64(r.Int63n(1<<53)), exp-53-r.Intn(places+1))
	if r.Intn(2) == 0 {
		return -x
	}
	return x
}

// fill is a list of n numbers, each of the same kind.
func fill(n int, number func(i int) float64) []float64 {
	out := make([]float64, n)
	for i := range out {
		out[i] = number(i)
	}
	return out
}

func repeat(n int, x float64) []float64 { return slices.Repeat([]float64{x}, n) }

// counts are powers of 2 and what is beside them, and a few others.
func counts() []int {
	return []int{1, 2, 3, 4, 5, 6, 7, 8, 9, 15, 16, 17, 31, 32, 33, 63, 64, 65, 100}
}

// named are finite lists that the chapter speaks of.
func named() [][]float64 {
	out := [][]float64{nil, {}, {1, 0x1p100, 1, -0x1p100}, {1, 0x1p53, -0x1p53}, {minus}, {minus, minus}, {0}, {0, minus}, {minus, 0}, {minus, minus, minus, 0}, {1, -1}, {-1, 1}, {minus, 1, -1}, {least, -least}, {-least, least, minus},
		{1, 2}, {least, 0}, {0, least}, {-least, 0}, {least, least, 0}, {least, 0, 0}, {-least, 0, 0}, {0x3p-1074, 0}, {0x5p-1074, 0}, {-0x3p-1074, minus}, {3, 4}, {0x1p600, 0x1p600},
		{1, 0x1p-53}, {1 + 0x1p-52, 0x1p-53}, {1, 0x1p-53, least}, {1, 0x1p-53, -least}, {-1, -0x1p-53}, {1 + 0x1p-52, 0x1p-53, -least}, {1, 1 + 0x1p-52}, {1 + 0x1p-52, 1 + 0x1p-51},
		{5, 5 * 0x1p-53, least, 0, 0}, {5, 5 * 0x1p-52, 5 * 0x1p-53, -least, 0}, {-5, -5 * 0x1p-53, -least, 0, 0},
		{most, most}, {most, most, -most}, {most, most, -most, -most}, {most, -most, most}, {-most, -most, most, most, least}, {most, 0x1p970}, {most, 0x1p969}, {most, 0x1p970, -least}, {most, 0x1p969, 0x1p969}, {-most, -0x1p970}, {most, most, most, -most, -most, 1, -most},
		{1, least}, {0x1p1023, least}, {most, 0x1p-52}, {0x1p-1022, 0x1p-1022}, {0x3p-1074, 0x4p-1074}, {0x1p-537, 0x1p-538}, {0x1p-1022, -least}, {0x1p-1022, least, least}}
	for _, x := range edges() {
		out = append(out, []float64{x}, []float64{x, x}, []float64{x, -x, x}, []float64{x, minus}, []float64{1, x, -1}, []float64{x, x, x, x, 0})
	}
	return out
}

// lists are finite lists, none too long: the named ones, all counts, all kinds.
func lists() [][]float64 {
	out := named()
	r := rand.New(rand.NewSource(1))
	all := edges()
	for _, n := range counts() {
		for range 6 {
			exp := r.Intn(1900) - 950
			out = append(out,
				fill(n, func(int) float64 { return near(r, exp, 4) }),
				fill(n, func(int) float64 { return math.Abs(near(r, exp, 4)) }),
				fill(n, func(int) float64 { return near(r, 0, 120) }),
				fill(n, func(int) float64 { return near(r, -1015, 59) }),
				fill(n, func(int) float64 { return near(r, 1024, 8) }),
				fill(n, func(int) float64 { return chance(r) }),
				fill(n, func(int) float64 { return all[r.Intn(len(all))] }),
				fill(n, func(int) float64 { return math.Ldexp(float64(r.Intn(9)-4), -1074) }),
				cancelling(r, n))
		}
	}
	return append(out, long()...)
}

// cancelling is a list of which most numbers are gone in the end.
func cancelling(r *rand.Rand, n int) []float64 {
	out := fill(n, func(int) float64 { return near(r, 20, 100) })
	for i := n / 2; i < n-1; i++ {
		out[i] = -out[i-n/2]
	}
	r.Shuffle(n, func(i, j int) { out[i], out[j] = out[j], out[i] })
	return out
}

// long are lists of MaxSum numbers and nearly as many.
func long() [][]float64 {
	r := rand.New(rand.NewSource(2))
	climb := repeat(4096, 0x1p-53)
	climb[0] = 1
	return [][]float64{repeat(4096, most), repeat(4096, -most), repeat(4096, least), repeat(4095, -least), repeat(4096, 0.1), repeat(4096, minus), climb,
		fill(4096, func(i int) float64 { return float64(1-i%2*2) * most }), fill(4095, func(i int) float64 { return float64(1-i%2*2) * most }),
		fill(4096, func(int) float64 { return near(r, 0, 60) }), fill(4095, func(int) float64 { return chance(r) }), cancelling(r, 4096), fill(4096, func(int) float64 { return near(r, 1022, 1) })}
}

// anyLists are lists with infinities and NaNs among them.
func anyLists() [][]float64 {
	out := lists()
	r := rand.New(rand.NewSource(3))
	strange := wild()
	for _, x := range strange {
		out = append(out, []float64{x}, []float64{x, 1}, []float64{1, x}, []float64{minus, x, minus}, []float64{most, most, x}, []float64{x, most, most}, []float64{-most, -most, x}, []float64{x, -most, -most})
		for _, y := range strange {
			out = append(out, []float64{x, y}, []float64{1, x, 2, y, 3})
		}
	}
	for _, n := range counts() {
		for range 10 {
			l := fill(n, func(int) float64 { return near(r, 1024, 20) })
			for range 1 + r.Intn(3) {
				l[r.Intn(n)] = strange[r.Intn(len(strange))]
			}
			out = append(out, l)
		}
		l := fill(n, func(int) float64 { return near(r, 1024, 3) })
		l[r.Intn(n)] = inf
		out = append(out, l)
	}
	return out
}

// pairsOf are lists two by two, of the same count each: with itself, mixed, with great, small and no amounts.
func pairsOf(all [][]float64) [][2][]float64 {
	r := rand.New(rand.NewSource(4))
	var out [][2][]float64
	for _, a := range all {
		n := len(a)
		out = append(out, [2][]float64{a, a}, [2][]float64{a, mixed(r, a)})
		for _, b := range [][]float64{repeat(n, 1), repeat(n, -1), repeat(n, most), repeat(n, -least), make([]float64, n), repeat(n, minus), fill(n, func(int) float64 { return near(r, 0, 60) }), fill(n, func(i int) float64 { return float64(1 - i%2*2) })} {
			if n > 1000 && r.Intn(3) > 0 {
				continue
			}
			out = append(out, [2][]float64{a, b}, [2][]float64{b, a})
		}
	}
	return out
}

func mixed(r *rand.Rand, l []float64) []float64 {
	out := slices.Clone(l)
	r.Shuffle(len(out), func(i, j int) { out[i], out[j] = out[j], out[i] })
	return out
}
