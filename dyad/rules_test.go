package dyad_test

import (
	"math"
	"math/rand"
	"slices"
	"testing"

	"binnacle/api"
	"binnacle/dyad"
)

func add(a, b said) said { return both(a, b, dyad.Add) }
func sub(a, b said) said { return both(a, b, dyad.Sub) }
func mul(a, b said) said { return both(a, b, dyad.Mul) }

// both does something with two dyads, if there are two.
func both(a, b said, what func(a, b api.Dyad) (api.Dyad, api.Errno)) said {
	if a.err != api.OK {
		return a
	}
	if b.err != api.OK {
		return b
	}
	return told(what(a.d, b.d))
}

// alike tells that two ways to reckon come to the same, or that one of them was too long.
func alike(a, b said) bool {
	return a.err == api.ErrLong || b.err == api.ErrLong || a.is(b)
}

// triples are dyads three by three, near to one another and far away, some so long that not all of it can be reckoned.
func triples() [][3]said {
	r := rand.New(rand.NewSource(8))
	var out [][3]said
	for i := range 600 {
		var three [3]said
		for k := range three {
			d := chance(r, 4, -100, 100)
			switch {
			case i%9 == 0:
				d = chance(r, 800, -30000, 30000)
			case i%7 == 0 && k == r.Intn(3):
				d = api.Dyad{}
			}
			three[k] = told(d, api.OK)
		}
		out = append(out, three)
	}
	return out
}

func TestExactly(t *testing.T) {
	wrong, reckoned := 0, 0
	for _, three := range triples() {
		a, b, c := three[0], three[1], three[2]
		for i, p := range [][2]said{
			{add(a, b), add(b, a)},
			{mul(a, b), mul(b, a)},
			{add(add(a, b), c), add(a, add(b, c))},
			{mul(mul(a, b), c), mul(a, mul(b, c))},
			{mul(a, add(b, c)), add(mul(a, b), mul(a, c))},
			{sub(add(a, b), b), a},
			{add(sub(a, b), b), a},
		} {
			if p[0].err == api.OK && p[1].err == api.OK {
				reckoned++
			}
			if !alike(p[0], p[1]) {
				t.Errorf("law %d of %v, %v, %v: %v and %v", i, a.brief(), b.brief(), c.brief(), p[0].brief(), p[1].brief())
				few(t, &wrong)
			}
		}
	}
	if reckoned < 3000 {
		t.Errorf("only %d laws were reckoned", reckoned)
	}
}

func TestRoundingRises(t *testing.T) {
	list := roundedDyads()
	slices.SortFunc(list, func(a, b api.Dyad) int {
		k, _ := dyad.Compare(a, b)
		return k
	})
	for i := range list[1:] {
		if exactOf(list[i]).cmp(exactOf(list[i+1])) > 0 {
			t.Fatalf("Compare doesn't order %v and %v", brief(list[i]), brief(list[i+1]))
		}
	}
	for _, mode := range modes {
		last, last32 := math.Inf(-1), float32(math.Inf(-1))
		for _, d := range list {
			x, _ := dyad.Round(d, mode)
			x32, _ := dyad.Round32(d, mode)
			if x < last || x32 < last32 {
				t.Errorf("mode %d falls at %v", mode, brief(d))
			}
			last, last32 = x, x32
		}
	}
}

func TestRoundOfANumberIsTheNumber(t *testing.T) {
	for _, x := range finite() {
		for _, mode := range modes {
			if got, err := dyad.Round(of(t, x), mode); math.Float64bits(got) != math.Float64bits(x+0) || err != api.OK {
				t.Errorf("Round(Of(%x), %d): %x, %d", x, mode, got, err)
			}
			if f := float32(x); !math.IsInf(float64(f), 0) {
				if got, err := dyad.Round32(of(t, float64(f)), mode); math.Float32bits(got) != math.Float32bits(f+0) || err != api.OK {
					t.Errorf("Round32(Of(%x), %d): %x, %d", f, mode, got, err)
				}
			}
		}
	}
}

func TestDownAndUpStandAround(t *testing.T) {
	wrong := 0
	for _, d := range roundedDyads() {
		down, _ := dyad.Round(d, api.ModeDown)
		up, _ := dyad.Round(d, api.ModeUp)
		x := exactOf(d)
		if !math.IsInf(down, 0) && exactFloat(down).cmp(x) > 0 || math.IsInf(down, 1) || !math.IsInf(up, 0) && exactFloat(up).cmp(x) < 0 || math.IsInf(up, -1) {
			t.Errorf("%v: %x and %x aren't around it", brief(d), down, up)
			few(t, &wrong)
		}
		if on := down == up; !on && math.Nextafter(down, inf) != up || on && exactFloat(down).cmp(x) != 0 {
			t.Errorf("%v: between %x and %x stands another one", brief(d), down, up)
			few(t, &wrong)
		}
		for _, mode := range modes {
			if got, _ := dyad.Round(d, mode); got != down && got != up {
				t.Errorf("Round(%v, %d): %x is neither %x nor %x", brief(d), mode, got, down, up)
				few(t, &wrong)
			}
		}
	}
}

func TestOnceIsEnough(t *testing.T) {
	wrong := 0
	near := func(d api.Dyad, err api.Errno) float64 {
		if err != api.OK {
			t.Fatal(err)
		}
		x, _ := dyad.Round(d, api.ModeNear)
		return x
	}
	list := finite()
	for _, a := range list {
		for _, b := range list {
			if got, want := near(dyad.Sum([]float64{a, b})), a+b; got != want {
				t.Errorf("Sum(%x, %x): %x, not %x", a, b, got, want)
				few(t, &wrong)
			}
			// Beside an exact 0 a product that falls below all numbers keeps its sign.
			if got, want := near(dyad.Dot([]float64{a}, []float64{b})), a*b; got != want || a != 0 && b != 0 && math.Signbit(got) != math.Signbit(want) {
				t.Errorf("Dot(%x, %x): %x, not %x", a, b, got, want)
				few(t, &wrong)
			}
		}
	}
}
