package eft_test

import (
	"math"
	"math/big"
	"math/rand"
	"testing"

	"binnacle/api"
	"binnacle/eft"
)

// det is a * d - b * c, exactly, in 2^-2148.
func det(a, b, c, d float64) *big.Int {
	n := product(a, d)
	return n.Sub(n, product(b, c))
}

// turn is the chapter's formula, exactly, in 2^-2148.
func turn(p [6]float64) *big.Int {
	less := func(a, b float64) *big.Int { return new(big.Int).Sub(units(a), units(b)) }
	n := new(big.Int).Mul(less(p[2], p[0]), less(p[5], p[1]))
	return n.Sub(n, new(big.Int).Mul(less(p[3], p[1]), less(p[4], p[0])))
}

func turned(p [6]float64) (int, api.Errno) {
	return eft.Turn(p[0], p[1], p[2], p[3], p[4], p[5])
}

// fours are numbers for determinants: any, edges, and those whose products are alike or differ in the last digits.
func fours() [][4]float64 {
	var out [][4]float64
	r := rand.New(rand.NewSource(8))
	list := edges()
	at := func() float64 { return list[r.Intn(len(list))] }
	for range 20000 {
		out = append(out, [4]float64{chance(r), chance(r), chance(r), chance(r)}, [4]float64{at(), at(), at(), at()})
		a, d := digits(r, 53, r.Intn(1900)-1074), digits(r, 53, r.Intn(1900)-1074)
		out = append(out, [4]float64{a, a, d, d}, [4]float64{a, d, a, d}, [4]float64{a, math.Nextafter(a, 0), d, d}, [4]float64{a, math.Nextafter(a, 0), math.Nextafter(d, most), d})
		// The same product in other factors: digits and powers exchanged.
		x, y := float64(r.Intn(1<<20)+1), float64(r.Intn(1<<20)+1)
		u, v := digits(r, 20, 0), digits(r, 20, 0)
		k := r.Intn(1900) - 950
		out = append(out, [4]float64{math.Ldexp(x*y, k), math.Ldexp(x*u, k), y * v, u * v}, [4]float64{math.Ldexp(x*y, k), math.Ldexp(x*u, -k), math.Ldexp(y*v, k), math.Ldexp(u*v, -k)})
	}
	return out
}

// triples are three points: any, edges, on a line, beside a line by the last digit.
func triples() [][6]float64 {
	var out [][6]float64
	r := rand.New(rand.NewSource(9))
	list := edges()
	for range 10000 {
		var p, q, s [6]float64
		for i := range p {
			p[i], q[i] = chance(r), list[r.Intn(len(list))]
			s[i] = float64(r.Intn(7) - 3)
		}
		out = append(out, p, q, s)
		x, y := digits(r, 40, -20), digits(r, 40, -20)
		dx, dy := digits(r, 30, -20), digits(r, 30, -20)
		m, n := float64(r.Intn(100)-50), float64(r.Intn(100)-50)
		line := [6]float64{x, y, x + m*dx, y + m*dy, x + n*dx, y + n*dy}
		exp := r.Intn(1900) - 1000
		for i := range line {
			line[i] = math.Ldexp(line[i], exp)
		}
		out = append(out, line)
		i := r.Intn(6)
		line[i] = math.Nextafter(line[i], float64(r.Intn(2)*2-1)*most)
		out = append(out, line)
		out = append(out, [6]float64{p[0], p[1], p[0], p[1], p[2], p[3]}, [6]float64{p[0], p[1], q[0], q[1], p[0], p[1]})
	}
	return out
}

// P4.7, P4.13: Det.
func TestDet(t *testing.T) {
	wrong, seen := 0, map[int]int{}
	for _, f := range fours() {
		a, b, c, d := f[0], f[1], f[2], f[3]
		got, err := eft.Det(a, b, c, d)
		seen[got]++
		if want := det(a, b, c, d).Sign(); got != want || err != api.OK {
			t.Errorf("Det(%x): %d, %d, not %d", f, got, err, want)
			few(t, &wrong)
		}
		rows, _ := eft.Det(c, d, a, b)
		columns, _ := eft.Det(b, a, d, c)
		if rows != -got || columns != -got {
			t.Errorf("Det(%x): %d, rows exchanged %d, columns %d", f, got, rows, columns)
			few(t, &wrong)
		}
	}
	if seen[0] < 1000 || seen[1] < 1000 || seen[-1] < 1000 {
		t.Errorf("signs: %v", seen)
	}
}

// P4.7, P4.13: Turn.
func TestTurn(t *testing.T) {
	wrong, seen := 0, map[int]int{}
	for _, p := range triples() {
		got, err := turned(p)
		seen[got]++
		if want := turn(p).Sign(); got != want || err != api.OK {
			t.Errorf("Turn(%x): %d, %d, not %d", p, got, err, want)
			few(t, &wrong)
		}
		circle := [6]float64{p[2], p[3], p[4], p[5], p[0], p[1]}
		again := [6]float64{p[4], p[5], p[0], p[1], p[2], p[3]}
		for _, q := range [][6]float64{circle, again} {
			if s, _ := turned(q); s != got {
				t.Errorf("Turn(%x): %d, turned round %d", p, got, s)
				few(t, &wrong)
			}
		}
		for _, q := range [][6]float64{p, circle, again} {
			if s, _ := eft.Turn(q[2], q[3], q[0], q[1], q[4], q[5]); s != -got {
				t.Errorf("Turn(%x): %d, exchanged %d", q, got, s)
				few(t, &wrong)
			}
		}
	}
	if seen[0] < 1000 || seen[1] < 1000 || seen[-1] < 1000 {
		t.Errorf("signs: %v", seen)
	}
}

func TestSignsNamed(t *testing.T) {
	e := 0x1p-52
	least := 0x1p-1074
	for _, c := range []struct {
		a, b, c, d float64
		want       int
	}{
		{1, 0, 0, 1, 1}, {0, 1, 1, 0, -1}, {1, 2, 2, 4, 0}, {0, 0, 0, 0, 0}, {minus, 0, minus, 0, 0},
		{0x1p600, 0x1p600, 0x1p-600, 0x1p-600, 0},
		{0x1p600, 0, 0, 0x1p600, 1}, {0, 0x1p600, 0x1p600, 0, -1}, {0x1p-600, 0, 0, 0x1p-600, 1}, {0, 0x1p-600, 0x1p-600, 0, -1},
		{least, 0, 0, least, 1}, {least, 0, 0, -least, -1}, {least, least, least, least, 0}, {least, least, 2 * least, least, -1},
		{most, most, most, most, 0}, {most, math.Nextafter(most, 0), most, most, 1}, {most, most, -most, most, 1}, {-most, most, most, most, -1},
		{1 + e, 1, 1, 1 - e, -1}, {1 - e, 1, 1, 1 + e, -1}, {1, 1 + e, 1 - e, 1, 1}, // 1 - 2^-104
		{most, least, most, least, 0}, {most, 2 * least, most, least, -1},
		{0x1p1000, 0x1p-50, 0x1p-50, 0x1p-1000, 1}, {0x1p1000, 1, 1, 0x1p-1000, 0}, {0x1p1000, 1 + e, 1, 0x1p-1000, -1},
	} {
		if s, err := eft.Det(c.a, c.b, c.c, c.d); s != c.want || err != api.OK {
			t.Errorf("Det(%x): %d, %d", c, s, err)
		}
	}
	for _, c := range []struct {
		p    [6]float64
		want int
	}{
		{[6]float64{0, 0, 1, 0, 1, least}, 1}, {[6]float64{0, 0, 1, 0, 1, -least}, -1}, {[6]float64{0, 0, 1, 0, 5, minus}, 0},
		{[6]float64{0, 0, 1, 0, 0, 1}, 1}, {[6]float64{0, 0, 0, 1, 1, 0}, -1}, {[6]float64{1, 1, 1, 1, 1, 1}, 0}, {[6]float64{1, 2, 3, 4, 5, 6}, 0},
		{[6]float64{most, most, -most, -most, 0, 0}, 0}, {[6]float64{most, most, -most, -most, 0, least}, -1}, {[6]float64{most, most, -most, -most, least, 0}, 1},
		{[6]float64{-most, -most, most, -most, most, most}, 1}, {[6]float64{-most, -most, most, most, most, -most}, -1},
		{[6]float64{least, least, 2 * least, 2 * least, 3 * least, 3 * least}, 0}, {[6]float64{least, least, 2 * least, 2 * least, 3 * least, 4 * least}, 1},
		{[6]float64{0.5, 0.5, 12, 12, 24, 24}, 0}, {[6]float64{math.Nextafter(0.5, 1), 0.5, 12, 12, 24, 24}, -1}, {[6]float64{0.5, math.Nextafter(0.5, 1), 12, 12, 24, 24}, 1},
		{[6]float64{0x1p600, 1, 0x1p-600, 1, 0, 1 + e}, -1}, {[6]float64{0, 0, most, least, most, least}, 0}, {[6]float64{0, 0, most, least, most, 2 * least}, 1},
	} {
		if s, err := turned(c.p); s != c.want || err != api.OK {
			t.Errorf("Turn(%x): %d, %d, not %d", c.p, s, err, c.want)
		}
	}
}
