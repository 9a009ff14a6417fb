package big

import (
	std "math/big"
	"math/rand"
	"testing"
)

// pairsWithDivisor are numbers and something that divides both.
func pairsWithDivisor(r *rand.Rand) [][2]nat {
	var out [][2]nat
	add := func(x, y nat) {
		if len(x) > 0 && len(y) > 0 {
			out = append(out, [2]nat{x, y}, [2]nat{y, x})
		}
	}
	for range 1200 {
		x, y, z := chanceInt(r).mag, chanceInt(r).mag, chanceInt(r).mag
		add(x, y)
		add(x.times(z), y.times(z))
		add(x.left(r.Intn(200)), y.left(r.Intn(200)))
		add(x.times(z), z)
		add(x, x)
	}
	for _, x := range all(2) {
		for _, y := range all(2) {
			add(x, y)
		}
	}
	// The numbers of which Euclid's steps are the most: each is the sum of the two ahead.
	one, two := natOf(1), natOf(2)
	for range 3000 {
		one, two = two, one.plus(two)
	}
	add(one, two)
	add(one.times(ones(3)), two.times(ones(3)))
	// Quotients that are longer than a run of steps takes in.
	long := ones(20)
	for range 6 {
		add(long, long.times(ones(7)).plus(natOf(5)))
		long = long.times(ones(7)).plus(natOf(5))
	}
	return out
}

func TestDivisors(t *testing.T) {
	for _, p := range pairsWithDivisor(rand.New(rand.NewSource(7))) {
		x, y := Int{mag: p[0]}, Int{mag: p[1]}
		want := new(std.Int).GCD(nil, nil, stdInt(x), stdInt(y))
		got, found := gcd(p[0], p[1], 0)
		if same(t, "gcd", Int{mag: got}, want); !found {
			t.Fatalf("not found: %d and %d words", len(p[0]), len(p[1]))
		}
		if got, found = gcd(p[0], p[1], want.BitLen()); !found || stdOf(got).Cmp(want) != 0 {
			t.Fatalf("not found where it is just long enough: %d and %d words", len(p[0]), len(p[1]))
		}
		if _, found = gcd(p[0], p[1], want.BitLen()+1); found {
			t.Fatalf("found where it is a bit too short: %d and %d words", len(p[0]), len(p[1]))
		}
		if Coprime(x, y) != (want.Cmp(std.NewInt(1)) == 0) {
			t.Fatalf("coprime: %d and %d words", len(p[0]), len(p[1]))
		}
		least := new(std.Int).Mul(stdInt(x), stdInt(y))
		same(t, "common", Common(x, y), least.Quo(least, want))
	}
}

func chanceRat(r *rand.Rand) Rat {
	below := chanceInt(r)
	for below.Sign() == 0 {
		below = chanceInt(r)
	}
	return Ratio(chanceInt(r), below)
}

func stdRat(f Rat) *std.Rat { return new(std.Rat).SetFrac(stdInt(f.Above()), stdInt(f.Below())) }

// sameRat holds a fraction against the library's; it need not be in lowest terms.
func sameRat(t *testing.T, what string, got Rat, want *std.Rat) {
	t.Helper()
	if !sane(got.Above()) || !sane(got.Below()) || got.Below().Sign() <= 0 || stdRat(got).Cmp(want) != 0 {
		t.Fatalf("%s: wrong: %.300s", what, want)
	}
}

func TestFractions(t *testing.T) {
	r := rand.New(rand.NewSource(8))
	for range 2500 {
		f, g := chanceRat(r), chanceRat(r)
		if r.Intn(4) == 0 {
			g = Ratio(g.Above(), f.Below())
		}
		a, b := stdRat(f), stdRat(g)
		sameRat(t, "plus", f.Plus(g), new(std.Rat).Add(a, b))
		sameRat(t, "minus", f.Minus(g), new(std.Rat).Sub(a, b))
		sameRat(t, "times", f.Times(g), new(std.Rat).Mul(a, b))
		if g.Sign() != 0 {
			sameRat(t, "over", f.Over(g), new(std.Rat).Quo(a, b))
		}
		if f.Compare(g) != a.Cmp(b) || f.Compare(f) != 0 || f.Sign() != a.Sign() {
			t.Fatalf("%.100s and %.100s: %d", a, b, f.Compare(g))
		}
	}
}

// Lowest terms, with as many bits as there may be, with one less, and where what divides both is long.
func TestLowest(t *testing.T) {
	r := rand.New(rand.NewSource(9))
	for range 2500 {
		f := chanceRat(r)
		if by := chanceInt(r); by.Sign() != 0 {
			f = Ratio(f.Above().Times(by), f.Below().Times(by))
		}
		want := stdRat(f)
		bits := max(want.Num().BitLen(), want.Denom().BitLen())
		for _, most := range []int{bits, bits + 1, bits + 1000, 1 << 20} {
			got, fits := f.Lowest(most)
			if !fits || stdInt(got.Above()).Cmp(want.Num()) != 0 || stdInt(got.Below()).Cmp(want.Denom()) != 0 || !sane(got.Above()) || !sane(got.Below()) {
				t.Fatalf("into %d bits of %d: %v", most, bits, fits)
			}
		}
		for _, most := range []int{bits - 1, bits / 2, 1} {
			if _, fits := f.Lowest(most); fits && most < bits && f.Sign() != 0 {
				t.Fatalf("fits into %d bits, not %d", most, bits)
			}
		}
	}
}

// What is cut off is told by the last bit; what is left has bits enough for a number of 53, and for half a step of it.
func TestRough(t *testing.T) {
	r := rand.New(rand.NewSource(10))
	for range 3000 {
		f := chanceRat(r)
		if r.Intn(3) == 0 {
			f = Ratio(Whole(r.Intn(2) == 0, r.Uint64()>>r.Intn(64)), Power(r.Intn(2000)))
		}
		if f.Sign() == 0 {
			continue
		}
		mag, exp := f.Rough()
		amount := new(std.Rat).Abs(stdRat(f))
		two := new(std.Rat).SetInt(new(std.Int).Lsh(std.NewInt(1), uint(max(exp, -exp))))
		if exp < 0 {
			two.Inv(two)
		}
		told := new(std.Rat).Mul(new(std.Rat).SetInt(new(std.Int).SetUint64(mag&^1)), two)
		next := new(std.Rat).Add(told, new(std.Rat).Mul(two, std.NewRat(2, 1)))
		exact := told.Cmp(amount) == 0
		if mag < 1<<62 || exact != (mag&1 == 0) || told.Cmp(amount) > 0 || next.Cmp(amount) <= 0 {
			t.Fatalf("%.100s: %x, %d", amount, mag, exp)
		}
	}
}
