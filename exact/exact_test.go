package exact_test

import (
	"math"
	std "math/big"
	"math/rand"
	"testing"

	"binnacle/api"
	"binnacle/big"
	"binnacle/exact"
)

// stdOf is a fraction of the library's, by which all of this is held; in lowest terms or not.
func stdOf(t *testing.T, f big.Rat) *std.Rat {
	t.Helper()
	out, is := new(std.Rat).SetString(f.Above().Text() + "/" + f.Below().Text())
	if !is {
		t.Fatalf("%s/%s", f.Above().Text(), f.Below().Text())
	}
	return out
}

// ratOf is our own out of the library's, times something above and below.
func ratOf(x *std.Rat, times int64) big.Rat {
	by := std.NewInt(times)
	above, _ := big.Read(new(std.Int).Mul(x.Num(), by).String())
	below, _ := big.Read(new(std.Int).Mul(x.Denom(), by).String())
	return big.Ratio(above, below)
}

// chance is a fraction of some bits, most of the time few.
func chance(r *rand.Rand) *std.Rat {
	bits := uint([]int{2, 3, 5, 30, 200}[r.Intn(5)])
	one := std.NewInt(1)
	most := new(std.Int).Lsh(one, bits)
	above, below := new(std.Int).Rand(r, most), new(std.Int).Rand(r, most)
	if r.Intn(2) == 0 {
		above.Neg(above)
	}
	return new(std.Rat).SetFrac(above, below.Add(below, one))
}

// grids are one grid, and what the library says of it.
func grids(r *rand.Rand, rows, cols int) (exact.Grid, [][]*std.Rat) {
	of := make([][]*std.Rat, rows)
	g := exact.Filled(rows, cols, func(i, _ int) big.Rat {
		x := chance(r)
		of[i] = append(of[i], x)
		return ratOf(x, int64(1+r.Intn(5)))
	})
	return g, of
}

func times(a, b [][]*std.Rat, cols int) [][]*std.Rat {
	out := make([][]*std.Rat, len(a))
	for i := range a {
		for j := range cols {
			x := new(std.Rat)
			for k := range b {
				x.Add(x, new(std.Rat).Mul(a[i][k], b[k][j]))
			}
			out[i] = append(out[i], x)
		}
	}
	return out
}

func turned(a [][]*std.Rat, cols int) [][]*std.Rat {
	out := make([][]*std.Rat, cols)
	for j := range out {
		for i := range a {
			out[j] = append(out[j], a[i][j])
		}
	}
	return out
}

// same holds a grid to what the library says.
func same(t *testing.T, what string, g exact.Grid, of [][]*std.Rat, cols int) {
	t.Helper()
	if g.Rows() != len(of) || g.Cols() != cols || len(g.All()) != len(of)*cols {
		t.Fatalf("%s: %d rows, %d columns", what, g.Rows(), g.Cols())
	}
	for i := range of {
		for j := range cols {
			if stdOf(t, g.At(i, j)).Cmp(of[i][j]) != 0 {
				t.Fatalf("%s, %d, %d: %s, not %s", what, i, j, stdOf(t, g.At(i, j)), of[i][j])
			}
		}
	}
}

// Products, sums, what is turned, rows; in lowest terms or not.
func TestGrids(t *testing.T) {
	r := rand.New(rand.NewSource(1))
	for range 400 {
		rows, cols, more := r.Intn(5), r.Intn(5), r.Intn(5)
		a, ofA := grids(r, rows, cols)
		b, ofB := grids(r, cols, more)
		c, ofC := grids(r, rows, cols)
		same(t, "times", a.Times(b), times(ofA, ofB, more), more)
		same(t, "turned", a.Turned(), turned(ofA, cols), rows)
		same(t, "lowest", a.Lowest(), ofA, cols)
		sum, less := make([][]*std.Rat, rows), make([][]*std.Rat, rows)
		for i := range rows {
			for j := range cols {
				sum[i] = append(sum[i], new(std.Rat).Add(ofA[i][j], ofC[i][j]))
				less[i] = append(less[i], new(std.Rat).Sub(ofA[i][j], ofC[i][j]))
			}
			same(t, "row", a.Row(i), ofA[i:i+1], cols)
		}
		same(t, "plus", a.Plus(c), sum, cols)
		same(t, "minus", a.Minus(c), less, cols)
		square := a.Times(a.Turned())
		same(t, "sandwich", b.Turned().Sandwich(a.Turned().Times(a)), times(turned(ofB, more), times(turned(ofA, cols), times(ofA, ofB, more), more), more), more)
		if !square.IsSymmetric() || !square.IsSquare() || !a.IsShapedAs(c) || a.IsShapedAs(exact.Filled(rows+1, cols, func(_, _ int) big.Rat { return ratOf(chance(r), 1) })) {
			t.Fatal("kinds")
		}
		for _, f := range a.Lowest().All() {
			if f.Above().Text() != stdOf(t, f).Num().String() || f.Below().Text() != stdOf(t, f).Denom().String() {
				t.Fatalf("not in lowest terms: %s", f.Above().Text())
			}
		}
	}
}

// What is mirrored is asked for from the diagonal down alone.
func TestMirrored(t *testing.T) {
	asked := 0
	g := exact.Mirrored(4, func(i, j int) big.Rat {
		if j > i {
			t.Fatal(i, j)
		}
		asked++
		return ratOf(std.NewRat(int64(10*i+j), 1), 1)
	})
	if asked != 10 || !g.IsSymmetric() || stdOf(t, g.At(1, 3)).Cmp(std.NewRat(31, 1)) != 0 {
		t.Fatal(asked, g)
	}
}

// Solutions, determinants, ranks and signs; of fractions that no text may hold, too.
func TestSolve(t *testing.T) {
	r := rand.New(rand.NewSource(2))
	solved := 0
	for range 300 {
		n := r.Intn(5)
		a, ofA := grids(r, n, n)
		b, ofB := grids(r, n, 2)
		x, is := a.Solve(b)
		if is != (a.Det().Sign() != 0) || is != (a.Rank() == n) {
			t.Fatal("solved or not", ofA)
		}
		if is {
			same(t, "solved", a.Times(x), ofB, 2)
			solved++
		}
		if sign := a.Times(a.Turned()).Sign(); is != (sign == api.SignPositive) || !is && sign != api.SignSemi {
			t.Fatal("sign", sign, ofA)
		}
	}
	if solved < 150 {
		t.Error("solved only", solved)
	}
	long := big.Ratio(big.Power(3*api.MaxBits), big.Whole(false, 3))
	one := big.Ratio(big.Whole(false, 1), big.Whole(false, 1))
	for _, c := range []struct {
		last big.Rat
		sign api.Sign
	}{{long.Times(long), api.SignSemi}, {long.Times(long).Plus(one), api.SignPositive}, {long.Times(long).Minus(one), api.SignOther}} {
		g := exact.Mirrored(2, func(i, j int) big.Rat { return []big.Rat{one, long, c.last}[i+j] })
		if _, fits := g.Fitted(); g.Sign() != c.sign || fits {
			t.Error("long", g.Sign(), fits)
		}
	}
	if _, is := exact.Unit(3).Minus(exact.Unit(3)).Solve(exact.Unit(3)); is {
		t.Error("noughts have an inverse")
	}
}

// Texts there and back, at the ends of what a text may hold; numbers.
func TestTexts(t *testing.T) {
	r := rand.New(rand.NewSource(3))
	for range 500 {
		x := chance(r)
		f, fits := exact.Fitted(ratOf(x, int64(1+r.Intn(9))))
		if text := exact.Text(f); !fits || text != api.Frac(x.RatString()) {
			t.Fatalf("%s, not %s", text, x)
		}
		back, is := exact.Read(exact.Text(f))
		if !is || stdOf(t, back).Cmp(x) != 0 {
			t.Fatalf("%s back", x)
		}
		number := math.Float64frombits(r.Uint64())
		of, is := exact.Of(number)
		want := new(std.Rat).SetFloat64(number)
		if is != (want != nil) || is && stdOf(t, of).Cmp(want) != 0 {
			t.Fatalf("%x", number)
		}
	}
	most := big.Power(api.MaxBits).Minus(big.Whole(false, 1))
	for _, c := range []struct {
		f    big.Rat
		fits bool
	}{
		{big.Ratio(most, big.Whole(false, 1)), true}, {big.Ratio(most.Plus(big.Whole(false, 1)), big.Whole(false, 1)), false},
		{big.Ratio(big.Whole(false, 1), most), true}, {big.Ratio(big.Whole(false, 1), most.Plus(big.Whole(false, 1))), false},
		{big.Ratio(most.Times(most), most.Neg()), true},
	} {
		f, fits := exact.Fitted(c.f)
		if fits != c.fits {
			t.Fatal("fits", fits)
		}
		if !fits {
			continue
		}
		if back, is := exact.Read(exact.Text(f)); !is || back.Compare(c.f) != 0 {
			t.Fatal("not back")
		}
	}
	for _, no := range []api.Frac{"", "-0", "2/4", "1/1", "0/1", "01", "1/-2", "x"} {
		if _, is := exact.Read(no); is {
			t.Errorf("%q", no)
		}
	}
}

// Good matrices and lists; what is read, told and listed is new memory.
func TestReading(t *testing.T) {
	for _, c := range []struct {
		m   api.FracMat
		err api.Errno
	}{
		{api.FracMat{}, api.OK}, {api.FracMat{Rows: 1, Cols: 2, At: []api.Frac{"1", "-2/3"}}, api.OK}, {api.FracMat{Rows: 13, Cols: 1}, api.ErrRange}, {api.FracMat{Rows: 1, Cols: -1}, api.ErrRange},
		{api.FracMat{Rows: 1, Cols: 1}, api.ErrShape}, {api.FracMat{Rows: 1, Cols: 1, At: []api.Frac{"x"}}, api.ErrFrac},
	} {
		g, err := exact.ReadMat(c.m)
		if err != c.err || err == api.OK && (g.Rows() != c.m.Rows || g.Cols() != c.m.Cols) {
			t.Errorf("%+v: error %d", c.m, err)
		}
	}
	l, is := exact.ReadList([]api.Frac{"1", "-2/3"})
	if !is || l.Rows() != 2 || l.Cols() != 1 {
		t.Fatal(l)
	}
	if _, is := exact.ReadList([]api.Frac{"1", "2/2"}); is {
		t.Error("no list")
	}
	all := l.All()
	all[0] = all[1]
	told := l.Texts()
	told[1] = "x"
	mat := l.TextMat()
	mat.At[0] = "y"
	if got := l.TextMat(); got.Rows != 2 || got.Cols != 1 || got.At[0] != "1" || got.At[1] != "-2/3" {
		t.Error(got)
	}
}
