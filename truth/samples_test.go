package truth_test

import (
	"math"
	"math/big"
	"math/rand"
	"slices"
	"testing"

	"binnacle/api"
)

var (
	inf   = math.Inf(1)
	minus = math.Copysign(0, -1)
	nan   = math.NaN()
)

const (
	most  = math.MaxFloat64
	least = 0x1p-1074
)

// side is how many rows a square of so many things has.
func side(things int) int {
	n := 0
	for n*n < things {
		n++
	}
	return n
}

func frac(rows, cols int, at ...api.Frac) api.FracMat {
	return api.FracMat{Rows: rows, Cols: cols, At: at}
}

func square(at ...api.Frac) api.FracMat { return frac(side(len(at)), side(len(at)), at...) }

func fracs(l ...api.Frac) []api.Frac { return l }

func state(x []api.Frac, p ...api.Frac) api.FracState { return api.FracState{X: x, P: square(p...)} }

// one is a state of one number.
func one(x, p api.Frac) api.FracState { return state(fracs(x), p) }

func info(v []api.Frac, y ...api.Frac) api.FracInfo { return api.FracInfo{Y: square(y...), V: v} }

// diagonal is a matrix with these fractions on its diagonal, else 0.
func diagonal(d ...api.Frac) api.FracMat {
	m := square(repeated[api.Frac](len(d)*len(d), "0")...)
	for i, f := range d {
		m.At[i*len(d)+i] = f
	}
	return m
}

func unit(n int) api.FracMat { return diagonal(repeated[api.Frac](n, "1")...) }

// repeated is a list of n times x.
func repeated[T any](n int, x T) []T { return slices.Repeat([]T{x}, n) }

// with is a copy of a list with x at i.
func with[T any](l []T, i int, x T) []T {
	l = slices.Clone(l)
	l[i] = x
	return l
}

func mat(rows, cols int, at ...float64) api.Mat { return api.Mat{Rows: rows, Cols: cols, At: at} }

func numbers(at ...float64) api.Mat { return mat(side(len(at)), side(len(at)), at...) }

func list(x ...float64) []float64 { return x }

func numberState(x []float64, p ...float64) api.State { return api.State{X: x, P: numbers(p...)} }

func between(lo, hi float64) api.Interval { return api.Interval{Lo: lo, Hi: hi} }

func point(x float64) api.Interval { return between(x, x) }

func points(x ...float64) (out []api.Interval) {
	for _, x := range x {
		out = append(out, point(x))
	}
	return out
}

func box(x []api.Interval, p ...api.Interval) api.Box { return api.Box{X: x, P: p} }

func intervals(l ...api.Interval) []api.Interval { return l }

// power is 2^n, and so much more.
func power(n int, more int64) api.Frac {
	p := new(big.Int).Lsh(big.NewInt(1), uint(n))
	return api.Frac(p.Add(p, big.NewInt(more)).String())
}

// under is 1 / f of a whole number.
func under(f api.Frac) api.Frac { return "1/" + f }

// longest is the greatest number that stands above or below a stroke, tooLong the next one.
func longest() api.Frac { return power(api.MaxBits, -1) }
func tooLong() api.Frac { return power(api.MaxBits, 0) }

// sameNumber tells of bits, those of NaNs and noughts too.
func sameNumber(a, b float64) bool { return math.Float64bits(a) == math.Float64bits(b) }

func sameNumbers(a, b []float64) bool { return slices.EqualFunc(a, b, sameNumber) }

func sameFracMat(a, b api.FracMat) bool {
	return a.Rows == b.Rows && a.Cols == b.Cols && slices.Equal(a.At, b.At)
}

func sameState(a, b api.FracState) bool { return slices.Equal(a.X, b.X) && sameFracMat(a.P, b.P) }

func sameInfo(a, b api.FracInfo) bool { return slices.Equal(a.V, b.V) && sameFracMat(a.Y, b.Y) }

func sameNumberState(a, b api.State) bool {
	return sameNumbers(a.X, b.X) && a.P.Rows == b.P.Rows && a.P.Cols == b.P.Cols && sameNumbers(a.P.At, b.P.At)
}

func sameIntervals(a, b []api.Interval) bool {
	return slices.EqualFunc(a, b, func(a, b api.Interval) bool { return sameNumber(a.Lo, b.Lo) && sameNumber(a.Hi, b.Hi) })
}

func sameBox(a, b api.Box) bool { return sameIntervals(a.X, b.X) && sameIntervals(a.P, b.P) }

// few stops a test that has found enough.
func few(t *testing.T, wrong *int) {
	t.Helper()
	if *wrong++; *wrong > 10 {
		t.FailNow()
	}
}

// enough tells if something was met too seldom to be held.
func enough(t *testing.T, what string, asked, least int) {
	t.Helper()
	if asked < least {
		t.Errorf("%s: %d times, not %d", what, asked, least)
	}
}

// unfit are numbers that aren't finite.
func unfit() []float64 {
	return list(inf, -inf, nan, -nan, math.Float64frombits(0x7ff0000000000001), math.Float64frombits(0xffffffffffffffff))
}

// noTexts are made once: the longest ones take their time.
var noTexts = makeNoFractions()

// noFractions are texts that are none.
func noFractions() []api.Frac { return noTexts }

func makeNoFractions() []api.Frac {
	return fracs("", " ", "-", "+1", "-0", "03", "1.5", "1e5", "x", "1 ", "1/", "/2", "1/2/3", "0/2", "1/0", "3/1", "1/-2", "1/02", "2/4", "-2/4", "4/2", "1/1", tooLong(), "-"+tooLong(), under(tooLong()))
}

// noIntervals are ends that are no interval's, and the empty one's.
func noIntervals() []api.Interval {
	return intervals(between(2, 1), between(least, 0), between(nan, 1), between(1, nan), between(nan, nan), between(inf, inf), between(-inf, -inf), between(inf, -inf), between(inf, 1), between(1, -inf), between(math.Nextafter(1, 2), 1))
}

// oneOf is one of a list.
func oneOf[T any](r *rand.Rand, l ...T) T { return l[r.Intn(len(l))] }

// signed is a number with a sign by chance.
func signed(r *rand.Rand, x float64) float64 { return math.Copysign(x, float64(r.Intn(2))-0.5) }

// sized is a number above 0 of a power of 2 from low to high.
func sized(r *rand.Rand, low, high int) float64 {
	return math.Ldexp(1+r.Float64(), low+r.Intn(high-low+1))
}

// anyFinite is a finite number: of one size, of any size, whole, at an end, a nought.
func anyFinite(r *rand.Rand) float64 {
	x := 0.0
	switch r.Intn(6) {
	case 0, 1:
		x = sized(r, -4, 4)
	case 2:
		x = sized(r, -1074, 1022)
	case 3:
		x = float64(r.Intn(20))
	case 4:
		x = oneOf(r, least, 0x1p-1022, 0x1p-537, 1, 0x1p512, 0x1p1023, most)
	}
	return signed(r, x)
}

// The kinds of fractions that chance brings, and of covariances made of them.
const (
	kindWhole  = iota // small whole numbers
	kindSmall         // small fractions
	kindOf            // numbers, exactly
	kindLong          // some dozens of bits above and below
	kindNarrow        // nearly singular
	kinds
)

func chanceWhole(r *rand.Rand, bits int) *big.Int {
	return new(big.Int).Rand(r, new(big.Int).Lsh(big.NewInt(1), uint(bits)))
}

// rat is one of a kind, of whatever sign.
func rat(r *rand.Rand, kind int) *big.Rat {
	switch kind {
	case kindWhole:
		return big.NewRat(int64(r.Intn(9)-4), 1)
	case kindOf:
		return new(big.Rat).SetFloat64(math.Ldexp(float64(float32(r.NormFloat64())), oneOf(r, 0, r.Intn(40)-20)))
	case kindLong:
		above, below := chanceWhole(r, 1+r.Intn(40)), chanceWhole(r, 1+r.Intn(40))
		if r.Intn(2) == 0 {
			above.Neg(above)
		}
		return new(big.Rat).SetFrac(above, below.Add(below, big.NewInt(1)))
	}
	return big.NewRat(int64(r.Intn(19)-9), int64(r.Intn(9)+1))
}

// positive is one of a kind above 0.
func positive(r *rand.Rand, kind int) *big.Rat {
	for {
		if x := rat(r, kind); x.Sign() != 0 {
			return x.Abs(x)
		}
	}
}

func text(r *rand.Rand, kind int) api.Frac { return textOf(rat(r, kind)) }

// texts is a list of n of a kind.
func texts(r *rand.Rand, kind, n int) (out []api.Frac) {
	for range n {
		out = append(out, text(r, kind))
	}
	return out
}

// gram is C D C' with a D that is above 0, or a little of it: so it is positive, or nearly singular.
func gram(r *rand.Rand, kind, n int) rats {
	for {
		c := made(n, n, func(i, j int) *big.Rat {
			// Where there are many numbers, most hang together with few others: else nothing is so slow as the words.
			if n > 5 && i != j && r.Intn(4) > 0 {
				return new(big.Rat)
			}
			return rat(r, kind)
		})
		d := made(n, n, func(i, j int) *big.Rat {
			switch {
			case i != j:
				return new(big.Rat)
			case kind == kindNarrow && i > 0:
				return new(big.Rat).SetFrac(big.NewInt(1), new(big.Int).Lsh(big.NewInt(1), uint(50+r.Intn(100))))
			}
			return positive(r, kind)
		})
		if p := c.times(d).times(c.turned()); isPositive(p) {
			return p
		}
	}
}

// fitState is a state that may be, of n numbers.
func fitState(r *rand.Rand, kind, n int) api.FracState {
	return api.FracState{X: texts(r, kind, n), P: gram(r, kind, n).texts()}
}

func fitInfo(r *rand.Rand, kind, n int) api.FracInfo {
	s := fitState(r, kind, n)
	return api.FracInfo{Y: s.P, V: s.X}
}

// anySize is how many numbers a state has: more of the small ones.
func anySize(r *rand.Rand) int { return oneOf(r, 0, 1, 1, 2, 2, 3, 3, oneOf(r, 4, 5)) }

// spoilMat makes something of a matrix wrong.
func spoilMat(r *rand.Rand, m *api.FracMat) {
	switch r.Intn(6) {
	case 0:
		m.Rows = oneOf(r, -1, 13, math.MaxInt, math.MinInt, m.Rows+1)
	case 1:
		m.Cols = oneOf(r, -1, 13, math.MaxInt, math.MinInt, m.Cols+1)
	case 2:
		m.At = append(m.At, "1")
	case 3:
		m.At = m.At[:max(0, len(m.At)-1)]
	case 4:
		spoilText(r, m.At)
	case 5:
		n := r.Intn(5)
		*m = frac(n, r.Intn(5))
		m.At = repeated(n*m.Cols, api.Frac("1"))
	}
}

// spoilText makes one of a list's texts none.
func spoilText(r *rand.Rand, l []api.Frac) {
	if len(l) > 0 {
		l[r.Intn(len(l))] = oneOf(r, noFractions()...)
	}
}

// spoil makes something of a list and the matrix beside it wrong.
func spoil(r *rand.Rand, x *[]api.Frac, p *api.FracMat) {
	n := len(*x)
	switch r.Intn(7) {
	case 0, 1:
		spoilMat(r, p)
	case 2:
		*x = append(*x, "1")
	case 3:
		*x = (*x)[:max(0, n-1)]
	case 4:
		spoilText(r, *x)
	case 5:
		if len(p.At) > 0 {
			p.At[r.Intn(len(p.At))] = text(r, kindSmall)
		}
	case 6:
		// Two rows and columns that are alike: on the edge of positive; or beyond it.
		if n > 1 && len(p.At) == n*n {
			for i := range n {
				p.At[i] = p.At[n+i]
			}
			for i := range n {
				p.At[i*n] = p.At[i*n+1]
			}
		} else if n == 1 && len(p.At) == 1 {
			p.At[0] = oneOf[api.Frac](r, "0", "-1/3")
		}
	}
}

// fitMove is a transition of n numbers and its noise.
func fitMove(r *rand.Rand, n int) (f, q api.FracMat) {
	kind := r.Intn(kinds)
	f = frac(n, n, texts(r, kind, n*n)...)
	switch r.Intn(5) {
	case 0:
		f = unit(n)
	case 1:
		f = diagonal(repeated[api.Frac](n, "0")...)
	}
	q = gram(r, r.Intn(kinds), n).texts()
	switch r.Intn(5) {
	case 0:
		q = diagonal(repeated[api.Frac](n, "0")...)
	case 1:
		for i, x := range q.At {
			q.At[i] = textOf(new(big.Rat).Neg(ratOf(x)))
		}
	}
	return f, q
}

// anyMove is one of each sort.
func anyMove(r *rand.Rand, n int) (f, q api.FracMat) {
	if r.Intn(12) == 0 {
		n++
	}
	f, q = fitMove(r, min(n, 12))
	if r.Intn(10) == 0 {
		spoilMat(r, &f)
	}
	if r.Intn(10) == 0 {
		spoilMat(r, &q)
	}
	if len(q.At) > 0 && r.Intn(10) == 0 {
		q.At[r.Intn(len(q.At))] = "7/2"
	}
	return f, q
}

// fitRow is what a sensor sees of n numbers.
func fitRow(r *rand.Rand, n int) []api.Frac {
	if r.Intn(8) == 0 {
		return repeated[api.Frac](n, "0")
	}
	return texts(r, r.Intn(kinds), n)
}

func anyRow(r *rand.Rand, n int) []api.Frac {
	h := fitRow(r, n)
	switch r.Intn(12) {
	case 0:
		h = append(h, "1")
	case 1:
		h = h[:max(0, n-1)]
	case 2:
		spoilText(r, h)
	}
	return h
}

func fitVariance(r *rand.Rand) api.Frac { return textOf(positive(r, r.Intn(kinds))) }

func anyVariance(r *rand.Rand) api.Frac {
	switch r.Intn(12) {
	case 0:
		return oneOf[api.Frac](r, "0", "-1", "-1/7")
	case 1:
		return oneOf(r, noFractions()...)
	}
	return fitVariance(r)
}

func anyValue(r *rand.Rand) api.Frac {
	if r.Intn(14) == 0 {
		return oneOf(r, noFractions()...)
	}
	return text(r, r.Intn(kinds))
}

// fitRows are some rows with their variances and values.
func fitRows(r *rand.Rand, rows, n int) (h api.FracMat, v, z []api.Frac) {
	h = frac(rows, n)
	for range rows {
		h.At = append(h.At, fitRow(r, n)...)
		v = append(v, fitVariance(r))
		z = append(z, text(r, r.Intn(kinds)))
	}
	return h, v, z
}

func anyRows(r *rand.Rand, n int) (h api.FracMat, v, z []api.Frac) {
	h, v, z = fitRows(r, r.Intn(4), min(n, 12))
	switch r.Intn(12) {
	case 0:
		spoilMat(r, &h)
	case 1:
		v = append(v, "1")
	case 2:
		z = append(z, "1")
	case 3:
		v = v[:max(0, len(v)-1)]
	case 4:
		z = z[:max(0, len(z)-1)]
	case 5:
		spoilText(r, v)
	case 6:
		spoilText(r, z)
	case 7:
		if len(v) > 0 {
			v[r.Intn(len(v))] = "0"
		}
	}
	return h, v, z
}
