package rational_test

import (
	"cmp"
	"math/rand"
	"slices"
	"testing"

	"binnacle/api"
	"binnacle/rational"
)

// The rules are held by the face's own calls, exactly: a text is a fraction's only one.

// must is what a call tells that may not refuse.
func must[T any](t *testing.T) func(x T, e api.Errno) T {
	return func(x T, e api.Errno) T {
		t.Helper()
		if e != api.OK {
			t.Fatalf("refused by %d", e)
		}
		return x
	}
}

// sides are how many rows the rules are held with, up to the most.
func sides(r *rand.Rand, round int) int {
	if round%20 == 0 {
		return api.MaxDim
	}
	return r.Intn(7)
}

// short are kinds of which no fraction comes to be too long, with as many rows as there are.
func short(r *rand.Rand, rows int) int {
	if rows > 5 {
		return []int{kindWhole, kindSmall, kindNought, kindOf}[r.Intn(4)]
	}
	return []int{kindWhole, kindSmall, kindNought, kindOf, kindLong}[r.Intn(5)]
}

// turning is a matrix that has an inverse.
func turning(t *testing.T, r *rand.Rand, n int) api.FracMat {
	for {
		c := chanceMat(r, []int{kindWhole, kindSmall}[r.Intn(2)], n, n)
		if must[int](t)(rational.Rank(c)) == n {
			return c
		}
	}
}

// carried is C' A C.
func carried(t *testing.T, c, a api.FracMat) api.FracMat {
	turned := must[api.FracMat](t)(rational.Turn(c))
	left := must[api.FracMat](t)(rational.MulMat(turned, a))
	return must[api.FracMat](t)(rational.MulMat(left, c))
}

// semi is a matrix that is never below 0: C' C, with a C that may lack rows.
func semi(t *testing.T, r *rand.Rand, n int) api.FracMat {
	rows := r.Intn(n + 1)
	return carried(t, chanceMat(r, []int{kindWhole, kindSmall, kindOf}[r.Intn(3)], rows, n), eye(rows))
}

// positive is one that is above 0.
func positive(t *testing.T, r *rand.Rand, n int) api.FracMat {
	return carried(t, turning(t, r, n), eye(n))
}

// P11.8: exactly.
func TestExactly(t *testing.T) {
	r := rand.New(rand.NewSource(1181))
	full, lacking := 0, 0
	mat, text, count := must[api.FracMat](t), must[api.Frac](t), must[int](t)
	for round := range 240 {
		n := sides(r, round)
		a, b := chanceMat(r, short(r, n), n, n), chanceMat(r, kindSmall, n, r.Intn(4))
		det := text(rational.Det(a))
		if turned := text(rational.Det(mat(rational.Turn(a)))); turned != det {
			t.Errorf("%v: Det %s, turned %s", a, det, turned)
		}
		other := chanceMat(r, kindSmall, n, n)
		if got, want := text(rational.Det(mat(rational.MulMat(a, other)))), text(rational.Mul(det, text(rational.Det(other)))); got != want {
			t.Errorf("%v, %v: the product's Det is %s, not %s", a, other, got, want)
		}
		inverse, e := rational.Inverse(a)
		if isFull := count(rational.Rank(a)) == n; isFull != (det != "0") || isFull != (e == api.OK) || !isFull && e != api.ErrSingular {
			t.Errorf("%v: full %v, Det %s, error %d", a, isFull, det, e)
		}
		x, e2 := rational.Solve(a, b)
		if e2 != e {
			t.Errorf("%v: Solve %d, Inverse %d", a, e2, e)
		}
		if e != api.OK {
			lacking++
			continue
		}
		full++
		isMat(t, "a X", b)(rational.MulMat(a, x))
		isMat(t, "a by its inverse", eye(n))(rational.MulMat(a, inverse))
		isMat(t, "the inverse by a", eye(n))(rational.MulMat(inverse, a))
		isMat(t, "the inverse's inverse", a)(rational.Inverse(inverse))
	}
	if full < 60 || lacking < 60 {
		t.Errorf("only %d full, %d lacking", full, lacking)
	}
}

// leading is a matrix's first rows and columns.
func leading(m api.FracMat, n int) api.FracMat {
	return grid(n, n, func(i, j int) api.Frac { return m.At[i*m.Cols+j] })
}

// P11.9: Sylvester.
func TestSylvester(t *testing.T) {
	r := rand.New(rand.NewSource(1191))
	signs := map[api.Sign]int{}
	for round := range 300 {
		n := sides(r, round)
		a := chanceSymmetric(r, short(r, n), n)
		if round%3 == 0 {
			a = positive(t, r, n)
		}
		sign := must[api.Sign](t)(rational.Sign(a))
		signs[sign]++
		above := true
		for k := range n + 1 {
			det := must[api.Frac](t)(rational.Det(leading(a, k)))
			above = above && must[int](t)(rational.Compare(det, "0")) > 0
		}
		if above != (sign == api.SignPositive) {
			t.Errorf("%v: sign %d, leading squares above 0: %v", a, sign, above)
		}
		c := turning(t, r, n)
		is(t, "Sign of C' A C", sign)(rational.Sign(carried(t, c, a)))
	}
	if signs[api.SignPositive] < 50 || signs[api.SignSemi] < 50 || signs[api.SignOther] < 50 {
		t.Errorf("only so many: %v", signs)
	}
}

// P11.10: the order is one: reflexive, antisymmetric, transitive.
func TestOrder(t *testing.T) {
	r := rand.New(rand.NewSource(11101))
	atMost, add := must[bool](t), must[api.FracMat](t)
	both, chains, not := 0, 0, 0
	for range 300 {
		n := r.Intn(4)
		a := chanceSymmetric(r, []int{kindWhole, kindSmall}[r.Intn(2)], n)
		b := add(rational.AddMat(a, semi(t, r, n)))
		c := add(rational.AddMat(b, semi(t, r, n)))
		if r.Intn(3) == 0 {
			c = chanceSymmetric(r, kindSmall, n)
		}
		if !atMost(rational.AtMost(a, a)) || !atMost(rational.AtMost(a, b)) {
			t.Errorf("%v is not at most itself, or %v", a, b)
		}
		for _, p := range [][2]api.FracMat{{a, b}, {b, c}, {a, c}} {
			same := atMost(rational.AtMost(p[0], p[1])) && atMost(rational.AtMost(p[1], p[0]))
			if same != sameFracMat(p[0], p[1]) {
				t.Errorf("%v and %v: each at most the other: %v", p[0], p[1], same)
			}
			if same {
				both++
			}
		}
		p := [][]api.FracMat{{a, b, c}, {c, a, b}, {b, c, a}, {a, c, b}}
		for _, l := range p {
			first, second, third := atMost(rational.AtMost(l[0], l[1])), atMost(rational.AtMost(l[1], l[2])), atMost(rational.AtMost(l[0], l[2]))
			if first && second && !third {
				t.Errorf("not transitive: %v", l)
			}
			if first && second {
				chains++
			}
			if !third {
				not++
			}
		}
	}
	if both < 50 || chains < 300 || not < 100 {
		t.Errorf("only so many: %d, %d, %d", both, chains, not)
	}
}

// P11.10: what keeps the order, and what turns it.
func TestOrderIsKept(t *testing.T) {
	r := rand.New(rand.NewSource(11102))
	atMost, mat := must[bool](t), must[api.FracMat](t)
	count := map[bool]int{}
	for round := range 200 {
		n := sides(r, round)
		if n == api.MaxDim {
			n = 8
		}
		a, b := positive(t, r, n), positive(t, r, n)
		if r.Intn(2) == 0 {
			b = mat(rational.AddMat(a, semi(t, r, n)))
		}
		is := atMost(rational.AtMost(a, b))
		count[is]++
		more := chanceSymmetric(r, kindSmall, n)
		if atMost(rational.AtMost(mat(rational.AddMat(a, more)), mat(rational.AddMat(b, more)))) != is {
			t.Errorf("%v, %v with %v: not %v", a, b, more, is)
		}
		if c := chanceMat(r, kindSmall, n, r.Intn(4)); is && !atMost(rational.AtMost(carried(t, c, a), carried(t, c, b))) {
			t.Errorf("%v, %v carried by %v", a, b, c)
		}
		if c := turning(t, r, n); atMost(rational.AtMost(carried(t, c, a), carried(t, c, b))) != is {
			t.Errorf("%v, %v carried by %v", a, b, c)
		}
		if atMost(rational.AtMost(mat(rational.Inverse(b)), mat(rational.Inverse(a)))) != is {
			t.Errorf("%v, %v: not so the inverses", a, b)
		}
	}
	if count[true] < 60 || count[false] < 60 {
		t.Errorf("only so many: %v", count)
	}
}

// P11.11: there and back; rising.
func TestThereAndBack(t *testing.T) {
	r := rand.New(rand.NewSource(11111))
	list := numbers()
	for range 3000 {
		list = append(list, chanceNumber(r, []int{kindOf, kindBits}[r.Intn(2)]))
	}
	for _, x := range list {
		isNumber(t, "Near of Of", x+0)(rational.Near(must[api.Frac](t)(rational.Of(x))))
	}
	for range 3000 {
		x, y := list[r.Intn(len(list))], list[r.Intn(len(list))]
		if r.Intn(2) == 0 {
			y = list[r.Intn(40)]
		}
		is(t, "Of rises", cmp.Compare(x, y))(rational.Compare(must[api.Frac](t)(rational.Of(x)), must[api.Frac](t)(rational.Of(y))))
	}
}

// P11.11: Near rises.
func TestNearRises(t *testing.T) {
	r := rand.New(rand.NewSource(11112))
	var list []api.Frac
	for range 1500 {
		f := chanceNear(r)
		if _, e := rational.Near(f); e == api.OK {
			list = append(list, f)
		}
	}
	list = append(list, "1/"+longest(), "-1/"+longest(), "0")
	slices.SortFunc(list, func(f, g api.Frac) int { return must[int](t)(rational.Compare(f, g)) })
	for i := 1; i < len(list); i++ {
		if x, y := must[float64](t)(rational.Near(list[i-1])), must[float64](t)(rational.Near(list[i])); x > y {
			t.Errorf("%s: %x, then %s: %x", brief(list[i-1]), x, brief(list[i]), y)
		}
	}
}
