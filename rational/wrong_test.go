package rational_test

import (
	"math"
	"slices"
	"testing"

	"binnacle/api"
	"binnacle/rational"
)

// spoilt are fraction matrices that aren't good, each with its error.
func spoilt() []struct {
	m   api.FracMat
	err api.Errno
} {
	return []struct {
		m   api.FracMat
		err api.Errno
	}{
		{frac(-1, 0), api.ErrRange}, {frac(0, -1), api.ErrRange}, {frac(13, 0), api.ErrRange}, {frac(0, 13), api.ErrRange}, {frac(13, 1, slices.Repeat([]api.Frac{"1"}, 13)...), api.ErrRange}, {frac(-1, -1, "1"), api.ErrRange}, {frac(math.MaxInt, 2), api.ErrRange}, {frac(2, math.MinInt), api.ErrRange}, {frac(-1, 1, "x"), api.ErrRange},
		{frac(1, 1), api.ErrShape}, {frac(0, 0, "1"), api.ErrShape}, {frac(2, 2, "1", "2", "3"), api.ErrShape}, {frac(2, 2, "1", "2", "3", "4", "5"), api.ErrShape}, {frac(12, 12), api.ErrShape}, {frac(1, 0, "1"), api.ErrShape}, {frac(1, 1, "x", "1"), api.ErrShape},
		{frac(1, 1, ""), api.ErrFrac}, {frac(1, 1, "-0"), api.ErrFrac}, {frac(2, 2, "1", "2", "3", "2/4"), api.ErrFrac}, {frac(2, 2, "x", "2", "3", "4"), api.ErrFrac}, {frac(1, 2, "1", "3/1"), api.ErrFrac}, {frac(2, 1, "01", "1"), api.ErrFrac}, {frac(2, 2, "1", "2", "+3", "1"), api.ErrFrac},
	}
}

// spoiltNumbers are matrices of numbers that aren't good.
func spoiltNumbers() []struct {
	m   api.Mat
	err api.Errno
} {
	return []struct {
		m   api.Mat
		err api.Errno
	}{
		{mat(-1, 0), api.ErrRange}, {mat(0, 13), api.ErrRange}, {mat(13, 0), api.ErrRange}, {mat(0, -1, nan), api.ErrRange}, {mat(math.MinInt, math.MaxInt), api.ErrRange},
		{mat(1, 1), api.ErrShape}, {mat(0, 0, 1), api.ErrShape}, {mat(2, 2, 1, 2, 3), api.ErrShape}, {mat(1, 1, nan, 1), api.ErrShape}, {mat(12, 12), api.ErrShape},
		{mat(1, 1, nan), api.ErrNumber}, {mat(2, 2, 1, 2, 3, inf), api.ErrNumber}, {mat(1, 2, -inf, 1), api.ErrNumber}, {mat(2, 2, 1, nan, 2, 1), api.ErrNumber},
	}
}

// goods are matrices that are good: square or not, symmetric or not, with an inverse or not; of sums and products that are too great.
func goods() []api.FracMat {
	half := power(40000, 0)
	return []api.FracMat{
		frac(0, 0), frac(0, 2), frac(2, 0), frac(1, 1, "0"), frac(1, 1, "2/3"), frac(1, 2, "1", "2"), frac(2, 1, "0", "-1/2"), frac(2, 2, "1", "2", "2", "4"), frac(2, 2, "1", "2", "3", "4"), frac(2, 2, "2", "1/2", "1/2", "1"), frac(2, 2, "0", "1", "-1", "0"), frac(2, 3, "1", "2", "3", "4", "5", "6"), eye(3), frac(3, 3, "1", "0", "0", "0", "1", "0", "1/5", "0", "1"),
		frac(1, 1, half), frac(2, 2, half, "0", "0", half), frac(2, 2, half, "0", "1", "1/"+half),
	}
}

func goodNumbers() []api.Mat {
	return []api.Mat{mat(0, 0), mat(0, 2), mat(2, 0), mat(1, 1, 0), mat(1, 1, -2.5), mat(1, 2, 1, 2), mat(2, 1, 1, 2), mat(2, 2, 1, 2, 2, 1), mat(2, 2, 1, 2, 3, 4), mat(2, 2, 1, 0, minus, 1), mat(2, 3, 1, 2, 3, 4, 5, 6), mat(2, 2, most, most, most, most)}
}

// P4, P8: whatever is wrong, in one argument or in several: the words' first error, with zero values beside it.
func TestWhateverIsWrong(t *testing.T) {
	wrong := 0
	all, numbers := goods(), goodNumbers()
	for _, c := range spoilt() {
		all = append(all, c.m)
	}
	for _, c := range spoiltNumbers() {
		numbers = append(numbers, c.m)
	}
	texts := []api.Frac{"0", "1", "-2/3", power(40000, 0), "", "2/4", "-0", tooLong()}
	for _, c := range calls() {
		switch c.name {
		case "OfMat", "SignMat", "AtMostMat":
			for _, m := range numbers {
				for _, n := range numbers {
					held(t, &wrong, c, question{m: m, n: n})
				}
			}
		case "AddMat", "SubMat", "MulMat", "Solve", "AtMost":
			for _, a := range all {
				for _, b := range all {
					held(t, &wrong, c, question{a: a, b: b})
				}
			}
		default:
			for i, f := range texts {
				for j, g := range texts {
					held(t, &wrong, c, question{f: f, g: g, a: all[(i*len(texts)+j)%len(all)], size: i*8 + j - 20, i: int64(i), k: int64(j)})
				}
			}
		}
	}
	for _, c := range matrixCalls() {
		for _, a := range all {
			for _, f := range []api.Frac{"3", "x"} {
				held(t, &wrong, c, question{a: a, f: f})
			}
		}
	}
}

// Texts that are none, in either place, ahead of everything else.
func TestNoFractions(t *testing.T) {
	for _, f := range append(noFractions(), tooLong(), "1/"+tooLong()) {
		for _, g := range []api.Frac{"0", "1/2", "", longest()} {
			for _, c := range fractionCalls()[4:] {
				for _, q := range []question{{f: f, g: g}, {f: g, g: f}} {
					if got := c.ask(q); !got.as(fault(api.ErrFrac)) {
						t.Errorf("%s of %+v: %+v", c.name, q.brief(), got.brief())
					}
				}
			}
		}
		no[float64](t, "Near("+string(brief(f))+")", api.ErrFrac)(rational.Near(f))
		noMat(t, "Scale", api.ErrFrac)(rational.Scale(f, frac(-1, 5)))
		noMat(t, "Scale", api.ErrFrac)(rational.Scale("2", frac(2, 2, "1", "2", "3", f)))
	}
}

// A spoilt first argument is told ahead of a spoilt second one, and both ahead of shapes, symmetry, inverses.
func TestSpoiltFirst(t *testing.T) {
	odd := frac(2, 3, "1", "2", "3", "4", "5", "6")
	for _, c := range spoilt() {
		for _, d := range spoilt() {
			noMat(t, "AddMat", c.err)(rational.AddMat(c.m, d.m))
			noMat(t, "SubMat", c.err)(rational.SubMat(c.m, d.m))
			noMat(t, "MulMat", c.err)(rational.MulMat(c.m, d.m))
			noMat(t, "Solve", c.err)(rational.Solve(c.m, d.m))
			no[bool](t, "AtMost", c.err)(rational.AtMost(c.m, d.m))
		}
		for _, a := range []api.FracMat{odd, frac(2, 2, "1", "2", "3", "4"), frac(2, 2, "0", "0", "0", "0"), eye(3)} {
			noMat(t, "AddMat", c.err)(rational.AddMat(a, c.m))
			noMat(t, "SubMat", c.err)(rational.SubMat(a, c.m))
			noMat(t, "MulMat", c.err)(rational.MulMat(a, c.m))
			noMat(t, "Solve", c.err)(rational.Solve(a, c.m))
			no[bool](t, "AtMost", c.err)(rational.AtMost(a, c.m))
		}
		noMat(t, "Scale", c.err)(rational.Scale("2", c.m))
		noMat(t, "Turn", c.err)(rational.Turn(c.m))
		noMat(t, "Inverse", c.err)(rational.Inverse(c.m))
		no[api.Frac](t, "Det", c.err)(rational.Det(c.m))
		no[int](t, "Rank", c.err)(rational.Rank(c.m))
		no[api.Sign](t, "Sign", c.err)(rational.Sign(c.m))
		if m, e := rational.NearMat(c.m); !sameMat(m, mat(0, 0)) || e != c.err {
			t.Errorf("NearMat of %v: %v, %d", c.m, m, e)
		}
	}
	for _, c := range spoiltNumbers() {
		noMat(t, "OfMat", c.err)(rational.OfMat(c.m))
		no[api.Sign](t, "SignMat", c.err)(rational.SignMat(c.m))
		for _, d := range spoiltNumbers() {
			no[bool](t, "AtMostMat", c.err)(rational.AtMostMat(c.m, d.m))
		}
		no[bool](t, "AtMostMat", c.err)(rational.AtMostMat(mat(2, 2, 1, 2, 3, 4), c.m))
		no[bool](t, "AtMostMat", c.err)(rational.AtMostMat(mat(1, 2, 1, 2), c.m))
	}
	// A text that is none is told ahead of a fraction that is too great for a number.
	if _, e := rational.NearMat(frac(1, 2, longest(), "x")); e != api.ErrFrac {
		t.Errorf("NearMat: %d", e)
	}
}

// Shapes that don't go together, ahead of symmetry, of inverses, of what is too great.
func TestShapes(t *testing.T) {
	long := longest()
	one, row, two := frac(1, 1, long), frac(1, 2, long, long), frac(2, 2, long, "0", "1", "0")
	for _, c := range [][2]api.FracMat{{one, row}, {row, one}, {one, two}, {row, frac(2, 1, long, long)}, {frac(0, 1), frac(1, 0)}, {frac(0, 0), frac(0, 1)}} {
		noMat(t, "AddMat", api.ErrShape)(rational.AddMat(c[0], c[1]))
		noMat(t, "SubMat", api.ErrShape)(rational.SubMat(c[0], c[1]))
		no[bool](t, "AtMost", api.ErrShape)(rational.AtMost(c[0], c[1]))
	}
	for _, c := range [][2]api.FracMat{{row, one}, {row, row}, {two, one}, {one, two}, {frac(2, 0), one}, {frac(0, 1), frac(0, 1)}} {
		noMat(t, "MulMat", api.ErrShape)(rational.MulMat(c[0], c[1]))
	}
	for _, c := range [][2]api.FracMat{{row, one}, {row, frac(2, 1, "1", "1")}, {two, one}, {one, two}, {frac(0, 1), frac(0, 1)}, {frac(0, 0), one}, {one, frac(0, 5)}, {two, frac(0, 0)}, {frac(2, 0), frac(2, 0)}} {
		noMat(t, "Solve", api.ErrShape)(rational.Solve(c[0], c[1]))
	}
	for _, m := range []api.FracMat{row, frac(2, 1, "1", "2"), frac(0, 1), frac(12, 0), frac(2, 3, "1", "2", "3", "4", "5", "6")} {
		noMat(t, "Inverse", api.ErrShape)(rational.Inverse(m))
		no[api.Frac](t, "Det", api.ErrShape)(rational.Det(m))
		no[api.Sign](t, "Sign", api.ErrShape)(rational.Sign(m))
		no[bool](t, "AtMost", api.ErrShape)(rational.AtMost(m, m))
	}
	no[bool](t, "AtMost", api.ErrShape)(rational.AtMost(frac(2, 2, "1", "2", "3", "4"), frac(1, 1, "1")))
	no[bool](t, "AtMost", api.ErrShape)(rational.AtMost(frac(1, 1, "1"), frac(2, 2, "1", "2", "3", "4")))
	for _, c := range [][2]api.FracMat{{eye(2), frac(2, 2, "1", "2", "3", "4")}, {frac(2, 2, "1", "2", "3", "4"), eye(2)}, {frac(2, 2, "1", "2", "3", "4"), frac(2, 2, "1", "2", "3", "4")}, {frac(2, 2, "1", "0", "1/2", "1"), frac(2, 2, "1", "1/2", "0", "1")}} {
		no[bool](t, "AtMost", api.ErrFracSym)(rational.AtMost(c[0], c[1]))
	}
	for _, c := range [][2]api.Mat{{mat(1, 1, 1), mat(2, 2, 1, 2, 3, 4)}, {mat(2, 2, 1, 2, 3, 4), mat(1, 1, 1)}, {mat(1, 2, 1, 2), mat(1, 2, 1, 2)}, {mat(0, 1), mat(0, 1)}, {mat(0, 0), mat(1, 1, 1)}} {
		no[bool](t, "AtMostMat", api.ErrShape)(rational.AtMostMat(c[0], c[1]))
	}
	no[bool](t, "AtMostMat", api.ErrFracSym)(rational.AtMostMat(mat(2, 2, 1, 2, 3, 4), mat(2, 2, 1, 0, 0, 1)))
	no[bool](t, "AtMostMat", api.ErrFracSym)(rational.AtMostMat(mat(2, 2, 1, 0, 0, 1), mat(2, 2, 1, 2, 3, 4)))
	no[api.Sign](t, "SignMat", api.ErrShape)(rational.SignMat(mat(1, 2, 1, 2)))
	// An inverse that isn't there is told ahead of fractions that would be too great.
	noMat(t, "Solve", api.ErrSingular)(rational.Solve(diagonal("1/"+long, "0"), frac(2, 1, long, "0")))
	noMat(t, "Inverse", api.ErrSingular)(rational.Inverse(diagonal("0", "1")))
	for _, n := range []int{-1, 13, math.MaxInt, math.MinInt} {
		noMat(t, "Unit", api.ErrRange)(rational.Unit(n))
	}
}
