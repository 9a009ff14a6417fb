package interval_test

import (
	"math"
	"math/rand"
	"testing"

	"binnacle/anatomy"
	"binnacle/api"
)

var (
	inf    = math.Inf(1)
	minus  = math.Copysign(0, -1)
	theNaN = math.Float64frombits(0x7ff8000000000001)
	all    = iv(-inf, inf)
	empty  = iv(inf, -inf)
)

const (
	most  = math.MaxFloat64
	least = 0x1p-1074
)

func iv(lo, hi float64) api.Interval { return api.Interval{Lo: lo, Hi: hi} }

func point(x float64) api.Interval { return iv(x, x) }

func next(x float64) float64 { return math.Nextafter(x, inf) }

func prev(x float64) float64 { return math.Nextafter(x, -inf) }

// sameNumber tells of bits, those of NaNs and noughts too.
func sameNumber(a, b float64) bool { return math.Float64bits(a) == math.Float64bits(b) }

func same(a, b api.Interval) bool { return sameNumber(a.Lo, b.Lo) && sameNumber(a.Hi, b.Hi) }

// few stops a test that has found enough.
func few(t *testing.T, wrong *int) {
	t.Helper()
	if *wrong++; *wrong > 10 {
		t.FailNow()
	}
}

// holds tells whether any numbers are held: what an interval is, by the chapter's words.
func holds(a api.Interval) bool {
	return !math.IsNaN(a.Lo) && !math.IsNaN(a.Hi) && a.Lo <= a.Hi && !math.IsInf(a.Lo, 1) && !math.IsInf(a.Hi, -1)
}

// plain is what counts: the noughts +0, the empty one for what is none.
func plain(a api.Interval) api.Interval {
	if !holds(a) {
		return empty
	}
	if a.Lo == 0 {
		a.Lo = 0
	}
	if a.Hi == 0 {
		a.Hi = 0
	}
	return a
}

// sound tells whether this may be answered.
func sound(a api.Interval) bool { return same(a, plain(a)) }

// none are neither intervals nor the empty one.
func none() []api.Interval {
	out := []api.Interval{iv(2, 1), iv(inf, inf), iv(-inf, -inf), iv(inf, 1), iv(1, -inf), iv(inf, 0), iv(0, -inf), iv(inf, -most), iv(most, -inf), iv(least, 0), iv(0, -least), iv(least, minus), iv(next(1), 1), iv(most, -most), iv(inf, most), iv(-most, -inf)}
	for _, f := range []uint64{1, 1 << 51, 1<<51 + 1, 1<<52 - 1} {
		for _, x := range []float64{math.Float64frombits(0x7ff<<52 | f), math.Float64frombits(0xfff<<52 | f)} {
			out = append(out, iv(x, 1), iv(1, x), iv(x, x), iv(-inf, x), iv(x, inf), iv(inf, x), iv(x, -inf), iv(x, 0))
		}
	}
	return out
}

// ends are numbers at and beside the places that matter, from the least one on, the infinities too.
func ends() []float64 {
	amounts := []float64{least, 0x2p-1074, 0x3p-1074, 0x1p-1022 - least, 0x1p-1022, 0x1p-537, 0x1p-52, 0.1, 0.5, 1, next(1), 1.5, 2, 3, 1<<53 - 1, 0x1p511, 0x1p512, 0x1p970, 0x1p1023, prev(most), most, inf}
	var out []float64
	for i := range amounts {
		out = append(out, -amounts[len(amounts)-1-i])
	}
	return append(append(out, minus, 0), amounts...)
}

// named are intervals that the chapter speaks of, few enough to be taken two by two.
func named() []api.Interval {
	return []api.Interval{
		empty, all, point(0), point(minus), iv(minus, 0), iv(0, minus), point(1), point(-1), point(0.1), point(-3), point(least), point(-least), point(0x3p-1074), point(most), point(-most), point(next(1)), point(2), point(0x1p-60), point(0x1p-537), point(0x1p512),
		iv(1, 2), iv(-2, -1), iv(-1, 2), iv(-2, 1), iv(-3, 4), iv(0, 1), iv(-1, 0), iv(minus, 3), iv(-3, minus), iv(0, 0.1), iv(0.1, 0.3), iv(-0.3, 0.7),
		iv(0, least), iv(-least, 0), iv(-least, least), iv(least, 0x2p-1074), iv(-0x3p-1074, 0x5p-1074), iv(least, 1), iv(-1, -least), iv(-0x1p-1022, 0x1p-1022-least),
		iv(0, inf), iv(minus, inf), iv(-inf, 0), iv(-inf, minus), iv(1, inf), iv(-inf, -1), iv(-1, inf), iv(-inf, 1), iv(least, inf), iv(-inf, -least), iv(-inf, most), iv(-most, inf), iv(most, inf), iv(-inf, -most), iv(3, inf),
		iv(-most, most), iv(prev(most), most), iv(-most, next(-most)), iv(0, most), iv(-most, 0), iv(1, most), iv(least, most), iv(0x1p1023, most), iv(1, next(1)), iv(prev(1), next(1)), iv(1<<53-1, 1<<53+2),
	}
}

// between are the intervals with such ends.
func between(l []float64) []api.Interval {
	var out []api.Interval
	for i, lo := range l {
		for _, hi := range l[i:] {
			if a := iv(lo, hi); holds(a) {
				out = append(out, a)
			}
		}
	}
	return out
}

// chanceNumber is any finite number.
func chanceNumber(r *rand.Rand) float64 {
	for {
		if x := math.Float64frombits(r.Uint64()); !math.IsNaN(x) && !math.IsInf(x, 0) {
			return x
		}
	}
}

// end is some number, of any kind that matters.
func end(r *rand.Rand) float64 {
	sign := float64(1 - 2*r.Intn(2))
	switch r.Intn(8) {
	case 0:
		return chanceNumber(r)
	case 1:
		return sign * math.Float64frombits(uint64(r.Intn(1<<r.Intn(30))))
	case 2:
		return sign * float64(r.Intn(20))
	case 3:
		return sign * math.Ldexp(r.Float64(), 1024-r.Intn(3))
	case 4:
		return sign * math.Ldexp(r.Float64(), -1000-r.Intn(74))
	case 5:
		l := ends()
		return l[1+r.Intn(len(l)-2)]
	case 6:
		return sign * math.Ldexp(float64(1+r.Intn(1000)), r.Intn(60)-30)
	}
	return sign * r.Float64()
}

// chance is some interval: a point, a narrow one, a wide one, one about 0, one without an end.
func chance(r *rand.Rand) api.Interval {
	x, y := end(r), end(r)
	switch r.Intn(8) {
	case 0:
		return point(x)
	case 1:
		y = x
		for range r.Intn(4) {
			y = math.Nextafter(y, most)
		}
	case 2:
		y = -y
	case 3:
		x = 0
	}
	if x > y {
		x, y = y, x
	}
	switch r.Intn(12) {
	case 0:
		return iv(-inf, y)
	case 1:
		return iv(x, inf)
	case 2:
		return iv(x, x+math.Abs(x)*0x1p-50)
	}
	return iv(x, y)
}

// intervals are the named ones, those of all edges, and many by chance.
func intervals() []api.Interval {
	out := append(named(), between(ends())...)
	r := rand.New(rand.NewSource(1))
	for range 1500 {
		if a := chance(r); holds(a) {
			out = append(out, a)
		}
	}
	return out
}

// pairs are named intervals, each with each, and many by chance; those that are none are among them.
func pairs() [][2]api.Interval {
	var out [][2]api.Interval
	for _, a := range named() {
		for _, b := range named() {
			out = append(out, [2]api.Interval{a, b})
		}
	}
	some := []api.Interval{point(1), iv(-1, 2), iv(0, inf), all, empty, point(0), iv(-inf, -most)}
	for _, a := range none() {
		for _, b := range append(some, a, iv(theNaN, theNaN)) {
			out = append(out, [2]api.Interval{a, b}, [2]api.Interval{b, a})
		}
	}
	r := rand.New(rand.NewSource(2))
	for range 6000 {
		out = append(out, [2]api.Interval{chance(r), chance(r)})
	}
	return out
}

// inside is some number that an interval holds, found by places in the order of all numbers: an end, a neighbour, 0, or any.
func inside(r *rand.Rand, a api.Interval) float64 {
	a = plain(a)
	lo, hi := anatomy.Key(max(a.Lo, -most)), anatomy.Key(min(a.Hi, most))
	at := lo
	switch width := uint64(hi) - uint64(lo); r.Intn(6) {
	case 0:
	case 1:
		at = hi
	case 2:
		at = lo + int64(min(width, uint64(r.Intn(3))))
	case 3:
		at = hi - int64(min(width, uint64(r.Intn(3))))
	case 4:
		at = min(max(lo, int64(r.Intn(5)-2)), hi)
	case 5:
		at = int64(uint64(lo) + r.Uint64()%(width+1))
	}
	x, _ := anatomy.Unkey(at)
	return x
}
