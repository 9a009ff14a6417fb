package rational_test

import (
	"math"
	"math/big"
	"math/rand"
	"slices"
	"testing"

	"binnacle/api"
)

var (
	inf   = math.Inf(1)
	minus = math.Copysign(0, -1)
	nan   = math.NaN()
)

const (
	most  = math.MaxFloat64
	least = 0x1p-1074
)

func frac(rows, cols int, at ...api.Frac) api.FracMat {
	return api.FracMat{Rows: rows, Cols: cols, At: at}
}

func mat(rows, cols int, at ...float64) api.Mat { return api.Mat{Rows: rows, Cols: cols, At: at} }

// grid is a fraction matrix of which each place is told.
func grid(rows, cols int, tell func(i, j int) api.Frac) api.FracMat {
	out := frac(rows, cols)
	for i := range rows {
		for j := range cols {
			out.At = append(out.At, tell(i, j))
		}
	}
	return out
}

// diagonal is a matrix with these fractions on the diagonal, else 0.
func diagonal(d ...api.Frac) api.FracMat {
	return grid(len(d), len(d), func(i, j int) api.Frac {
		if i == j {
			return d[i]
		}
		return "0"
	})
}

func eye(n int) api.FracMat { return diagonal(slices.Repeat([]api.Frac{"1"}, n)...) }

// power is 2^n, and so much more.
func power(n int, more int64) api.Frac {
	p := new(big.Int).Lsh(big.NewInt(1), uint(n))
	return api.Frac(p.Add(p, big.NewInt(more)).String())
}

// longest is the greatest number that stands above or below a stroke, tooLong the next one.
func longest() api.Frac { return power(api.MaxBits, -1) }
func tooLong() api.Frac { return power(api.MaxBits, 0) }

func sameNumber(a, b float64) bool { return math.Float64bits(a) == math.Float64bits(b) }

func isFinite(x float64) bool { return !math.IsNaN(x) && !math.IsInf(x, 0) }

func sameMat(a, b api.Mat) bool {
	return a.Rows == b.Rows && a.Cols == b.Cols && slices.EqualFunc(a.At, b.At, sameNumber)
}

func sameFracMat(a, b api.FracMat) bool {
	return a.Rows == b.Rows && a.Cols == b.Cols && slices.Equal(a.At, b.At)
}

// few stops a test that has found enough.
func few(t *testing.T, wrong *int) {
	t.Helper()
	if *wrong++; *wrong > 10 {
		t.FailNow()
	}
}

// numbers are finite ones at and beside the places that matter.
func numbers() []float64 {
	out := []float64{0, minus}
	for _, x := range []float64{least, 0x3p-1074, 0x1p-1022 - least, 0x1p-1022, 0x1p-60, 0.1, 0.5, 1, 1 + 0x1p-52, 3, 1<<53 - 1, 0x1p53, 0x1p100, 0x1p1023, most} {
		out = append(out, x, -x)
	}
	return out
}

// unfit are numbers that aren't finite.
func unfit() []float64 {
	return []float64{inf, -inf, nan, -nan, math.Float64frombits(0x7ff0000000000001), math.Float64frombits(0xffffffffffffffff)}
}

// fractions are short ones, of both signs.
func fractions() []api.Frac {
	return []api.Frac{"0", "1", "-1", "2", "10", "-97", "1/2", "-1/2", "-3/4", "1/3", "22/7", "-1000000007/1000000009", "18446744073709551615", "18446744073709551616", "-18446744073709551617", "1/18446744073709551616", "18446744073709551615/18446744073709551616", "-340282366920938463463374607431768211457/3", "3602879701896397/36028797018963968"}
}

// noFractions are texts that are none.
func noFractions() []api.Frac {
	return []api.Frac{
		"", " ", "-", "--1", "+1", "-0", "00", "03", "-03", "0x1", "1_000", "1.5", "1e5", "x", "1 ", " 1", "1\n", "\x00", "٣", "½", "∞", "nan", "inf", "1\xff",
		"/", "1/", "/1", "/2", "-/2", "1//2", "1/2/3", "1/2/", "/1/2", "0/1", "0/2", "0/5", "-0/2", "1/0", "1/1", "3/1", "-3/1", "1/-2", "-1/-2", "1/+2", "1/02", "01/2", "-01/2", "1 /2", "1/ 2", "1/2 ", "1.0/2", "1/x", "x/2", "1/-1", "1/-0", "1/00",
		"2/4", "-2/4", "2/2", "4/2", "6/9", "10/100", "18446744073709551616/2", "36893488147419103232/18446744073709551616", "-15/340282366920938463463374607431768211455",
	}
}

// The kinds of chance fractions.
const (
	kindWhole  = iota // small whole numbers
	kindSmall         // small fractions
	kindNought        // noughts, most of all
	kindOf            // numbers of one size, exactly
	kindBits          // any numbers, exactly
	kindLong          // some hundred bits above and below
	kindSample        // fractions at the places that matter
	kinds
)

func chanceBits(r *rand.Rand, bits int) *big.Int {
	return new(big.Int).Rand(r, new(big.Int).Lsh(big.NewInt(1), uint(bits)))
}

func chanceNumber(r *rand.Rand, kind int) float64 {
	switch kind {
	case kindWhole:
		if n := r.Intn(9) - 4; n != 0 {
			return float64(n)
		}
		return math.Copysign(0, float64(r.Intn(2))-0.5)
	case kindNought:
		if r.Intn(4) > 0 {
			return math.Copysign(0, float64(r.Intn(2))-0.5)
		}
		return float64(r.Intn(5) - 2)
	case kindSample:
		l := numbers()
		return l[r.Intn(len(l))]
	case kindBits:
		for {
			if x := math.Float64frombits(r.Uint64()); isFinite(x) {
				return x
			}
		}
	}
	return r.NormFloat64()
}

func chanceRat(r *rand.Rand, kind int) *big.Rat {
	switch kind {
	case kindWhole, kindOf, kindBits, kindNought:
		return new(big.Rat).SetFloat64(chanceNumber(r, kind))
	case kindSmall:
		return big.NewRat(int64(r.Intn(19)-9), int64(r.Intn(9)+1))
	case kindLong:
		above, below := chanceBits(r, 1+r.Intn(400)), chanceBits(r, 1+r.Intn(400))
		if r.Intn(2) == 0 {
			above.Neg(above)
		}
		return new(big.Rat).SetFrac(above, below.Add(below, big.NewInt(1)))
	}
	l := fractions()
	return ratOf(l[r.Intn(len(l))])
}

func chanceFrac(r *rand.Rand, kind int) api.Frac { return textOf(chanceRat(r, kind)) }

// chanceSide is how many rows or columns a matrix has: none, one, few, rarely more.
func chanceSide(r *rand.Rand) int { return []int{0, 1, 1, 2, 2, 3, 3, 4, 5}[r.Intn(9)] }

func chanceMat(r *rand.Rand, kind, rows, cols int) api.FracMat {
	return hung(r, grid(rows, cols, func(_, _ int) api.Frac { return chanceFrac(r, kind) }))
}

// hung makes a row out of others at times: so ranks fall.
func hung(r *rand.Rand, m api.FracMat) api.FracMat {
	if m.Rows < 2 || r.Intn(3) > 0 {
		return m
	}
	p := r.Perm(m.Rows)
	by, and := chanceRat(r, kindSmall), chanceRat(r, kindWhole)
	return grid(m.Rows, m.Cols, func(i, j int) api.Frac {
		if i != p[0] {
			return m.At[i*m.Cols+j]
		}
		out := new(big.Rat).Mul(by, ratOf(m.At[p[1]*m.Cols+j]))
		if m.Rows > 2 {
			out.Add(out, new(big.Rat).Mul(and, ratOf(m.At[p[2]*m.Cols+j])))
		}
		return textOf(out)
	})
}

func chanceNumbers(r *rand.Rand, kind, rows, cols int) api.Mat {
	out := mat(rows, cols)
	for range rows * cols {
		out.At = append(out.At, chanceNumber(r, kind))
	}
	return out
}

// chanceSymmetric is a symmetric matrix: of whatever kind, or C D C' with a D of which the signs are chosen.
func chanceSymmetric(r *rand.Rand, kind, n int) api.FracMat {
	c := chanceMat(r, kind, n, n)
	if r.Intn(3) == 0 {
		return grid(n, n, func(i, j int) api.Frac { return c.At[max(i, j)*n+min(i, j)] })
	}
	least := r.Intn(3) - 1
	d := make([]api.Frac, n)
	for i := range d {
		d[i] = textOf(big.NewRat(int64(least+r.Intn(4-least)), int64(1+r.Intn(3))))
	}
	return wordsMul(wordsMul(c, diagonal(d...)), wordsTurn(c))
}

// chanceSymmetricNumbers is one of numbers; of small whole ones as above, so that it is of all signs.
func chanceSymmetricNumbers(r *rand.Rand, kind, n int) api.Mat {
	if kind == kindWhole || kind == kindNought {
		c := grid(n, n, func(_, _ int) api.Frac { return chanceFrac(r, kind) })
		m := wordsMul(c, wordsTurn(c))
		out := mat(n, n)
		for i, f := range m.At {
			x, _ := ratOf(f).Float64()
			if i%(n+1) == 0 && r.Intn(5) == 0 {
				x--
			}
			out.At = append(out.At, x)
		}
		return out
	}
	out := chanceNumbers(r, kind, n, n)
	for i := range n {
		for j := range i {
			out.At[j*n+i] = out.At[i*n+j]
			if out.At[i*n+j] == 0 {
				out.At[j*n+i] = -out.At[i*n+j]
			}
		}
		if r.Intn(2) == 0 {
			out.At[i*n+i] = math.Abs(out.At[i*n+i])
		}
	}
	return out
}
