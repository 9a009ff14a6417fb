package big

import (
	std "math/big"
	"math/rand"
	"strings"
	"testing"
)

func TestSumsAndProducts(t *testing.T) {
	r := rand.New(rand.NewSource(1))
	for range 4000 {
		x, y := chanceInt(r), chanceInt(r)
		a, b := stdInt(x), stdInt(y)
		same(t, "plus", x.Plus(y), new(std.Int).Add(a, b))
		same(t, "minus", x.Minus(y), new(std.Int).Sub(a, b))
		same(t, "less itself", x.Minus(x), new(std.Int))
		same(t, "times", x.Times(y), new(std.Int).Mul(a, b))
		same(t, "negative", x.Neg(), new(std.Int).Neg(a))
		if x.Sign() != a.Sign() || x.Bits() != a.BitLen() {
			t.Fatalf("%.100s: sign %d, bits %d", a, x.Sign(), x.Bits())
		}
		if y.Sign() != 0 {
			same(t, "exact", x.Times(y).Exact(y), a)
		}
	}
	for _, x := range all(2) {
		for _, y := range all(2) {
			for _, neg := range []bool{false, true} {
				p, q := intOf(neg, x), intOf(!neg, y)
				same(t, "plus", p.Plus(q), new(std.Int).Add(stdInt(p), stdInt(q)))
				same(t, "times", p.Times(q), new(std.Int).Mul(stdInt(p), stdInt(q)))
			}
		}
	}
}

// The ways to multiply change with the words of both: each of them, and their borders.
func TestProductsOfAllSizes(t *testing.T) {
	r := rand.New(rand.NewSource(2))
	sizes := []int{0, 1, 2, few - 1, few, few + 1, 2*few - 2, 2*few - 1, 2 * few, 2*few + 1, 4*few - 3, 4 * few, 4*few + 1, 7*few + 5}
	for _, m := range sizes {
		for _, n := range sizes {
			for _, pair := range [][2]nat{{chance(r, m), chance(r, n)}, {ones(m), ones(n)}, {natOf(1).left(m * wordBits), chance(r, n)}} {
				x, y := Int{mag: pair[0]}, Int{mag: pair[1]}
				p := x.Times(y)
				same(t, "times", p, new(std.Int).Mul(stdInt(x), stdInt(y)))
				if y.Sign() != 0 {
					same(t, "exact", p.Exact(y), stdInt(x))
				}
			}
		}
	}
}

// Quotients and what is left, of words at which the guess of a quotient's word is too great.
func TestOver(t *testing.T) {
	divisors := append(append(all(1), all(2)...), all(3)...)
	hold := func(x, y nat) {
		if len(y) == 0 {
			return
		}
		quotient, left := x.over(y)
		q, m := new(std.Int).QuoRem(stdOf(x), stdOf(y), new(std.Int))
		same(t, "quotient", Int{mag: quotient}, q)
		same(t, "left", Int{mag: left}, m)
	}
	for _, x := range all(4) {
		for i, y := range divisors {
			if i%3 == len(x)%3 || i < 50 {
				hold(x, y)
			}
		}
	}
	r := rand.New(rand.NewSource(3))
	for range 3000 {
		hold(chance(r, r.Intn(40)), chance(r, r.Intn(20)))
	}
	hold(nat{0, 1<<64 - 2, 1 << 63}, nat{1<<64 - 1, 1 << 63})
	hold(nat{3, 0, 1 << 63}, nat{1, 1 << 61})
}

func TestShifts(t *testing.T) {
	r := rand.New(rand.NewSource(4))
	for range 2000 {
		x, n := chance(r, r.Intn(6)), r.Intn(300)
		same(t, "left", Int{mag: x.left(n)}, new(std.Int).Lsh(stdOf(x), uint(n)))
		same(t, "right", Int{mag: x.right(n)}, new(std.Int).Rsh(stdOf(x), uint(n)))
		if len(x) > 0 && x.left(n).zeros() != int(stdOf(x).TrailingZeroBits())+n {
			t.Fatalf("zeros of %x times 2^%d", x, n)
		}
	}
	for _, n := range []int{0, 1, 63, 64, 65, 1074, 65536} {
		same(t, "power", Power(n), new(std.Int).Lsh(std.NewInt(1), uint(n)))
	}
	same(t, "whole", Whole(true, 1<<63), new(std.Int).Lsh(std.NewInt(-1), 63))
	same(t, "whole", Whole(true, 0), new(std.Int))
}

// No call changes what it is given, nor what it answered before.
func TestNothingChanges(t *testing.T) {
	r := rand.New(rand.NewSource(5))
	for range 500 {
		x, y := chanceInt(r), chanceInt(r)
		a, b := stdInt(x), stdInt(y)
		if x.Sign() == 0 || y.Sign() == 0 {
			continue
		}
		p := x.Times(y)
		product := stdInt(p)
		p.Exact(x)
		p.Text()
		p.Plus(x).Minus(y)
		Coprime(p, y)
		Common(p, Whole(false, 1).Plus(y.Times(y)))
		Ratio(p, y).Lowest(3000)
		Ratio(x, y).Rough()
		p.mag.over(y.mag)
		same(t, "the first", x, a)
		same(t, "the second", y, b)
		same(t, "the product", p, product)
	}
}

func TestTexts(t *testing.T) {
	r := rand.New(rand.NewSource(6))
	hold := func(x Int) {
		text := stdInt(x).String()
		if x.Text() != text {
			t.Fatalf("%.100s, not %.100s", x.Text(), text)
		}
		back, is := Read(text)
		if same(t, "back", back, stdInt(x)); !is {
			t.Fatalf("%.100s is none", text)
		}
	}
	for range 2000 {
		hold(chanceInt(r))
	}
	ten := Whole(false, 10)
	for n, x := 0, Whole(false, 1); n < 400; n, x = n+1, x.Times(ten) {
		hold(x)
		hold(x.Minus(Whole(false, 1)))
		hold(x.Neg())
	}
	for _, words := range []int{1, 2, 7, 8, 9, 15, 16, 17, 33, 64, 500, 1024, 1025} {
		hold(Int{mag: ones(words)})
		hold(Power(words * wordBits))
		hold(Int{mag: chance(r, words)})
	}
	for _, text := range []string{"", "-", "-0", "00", "01", "-01", "+1", "1 ", " 1", "--1", "1-", "1.0", "1e3", "x", "0x1", "1_0", "٣", "1\x00", strings.Repeat("0", 50)} {
		if x, is := Read(text); is || x.Sign() != 0 {
			t.Errorf("Read(%q): %v", text, x)
		}
	}
}
