package qr_test

import (
	"math"
	"slices"
	"testing"

	"binnacle/api"
)

func spoiltOnes() []api.Mat {
	var out []api.Mat
	for _, c := range spoiltMats() {
		out = append(out, c.m)
	}
	return out
}

// lists are such that go with something, and such that don't.
func lists() [][]float64 {
	return [][]float64{nil, {}, {1}, {nan}, {1, 2}, {inf, 1}, {1, -inf}, {1, 2, 3}, {1, 2, nan}, {most, most}, repeated(1, 12), append(repeated(1, 11), nan), repeated(1, 13), append(repeated(1, 47), nan), repeated(1, 49), append(repeated(1, 48), nan), append(repeated(1, 500), inf)}
}

// turns are rows and numbers for Rotate, right and wrong.
func turns() []question {
	var out []question
	for _, rows := range [][2]int{{0, 1}, {1, 0}, {0, 2}, {11, 0}, {0, 0}, {1, 1}, {-1, 0}, {0, -1}, {-1, -1}, {2, 0}, {0, 12}, {12, 12}, {math.MaxInt, 0}, {0, math.MinInt}} {
		for _, by := range [][2]float64{{2, 3}, {minus, 0}, {nan, 1}, {1, inf}, {-inf, nan}, {most, most}} {
			out = append(out, question{i: rows[0], k: rows[1], a: by[0], b: by[1]})
		}
	}
	return out
}

// P4, P8: whatever is wrong, in one argument or in several, in one way or in several: the words' first error, with zero values beside it.
func TestWhateverIsWrong(t *testing.T) {
	wrong := 0
	all := append(goods(), spoiltOnes()...)
	for _, c := range calls() {
		for _, m := range all {
			for _, x := range lists() {
				held(t, &wrong, c, question{m: m, x: x, l: mats(m), a: 1, b: 2, k: 1})
			}
			for _, q := range turns() {
				q.m = m
				if c.name == "Rotate" {
					held(t, &wrong, c, q)
				}
			}
			for _, other := range all {
				if c.name == "Triangle" {
					held(t, &wrong, c, question{l: mats(m, other)})
				}
			}
		}
	}
}

// refusing asks calls, and tells of those that don't refuse as they should.
func refusing(t *testing.T, q question, err api.Errno, names ...string) {
	t.Helper()
	for _, c := range calls() {
		if !slices.Contains(names, c.name) {
			continue
		}
		if got := c.ask(q); !got.is(fault(err)) {
			t.Errorf("%s of %v: %+v, not error %d", c.name, q, got, err)
		}
	}
}

// P8: a matrix that isn't good is told ahead of all that comes behind it: rows, numbers, lists, shapes.
func TestSpoiltFirst(t *testing.T) {
	for _, c := range spoiltMats() {
		for _, x := range lists() {
			refusing(t, question{m: c.m, x: x}, c.err, "QR", "Least")
		}
		for _, q := range turns() {
			q.m = c.m
			refusing(t, q, c.err, "Rotate")
		}
		for _, l := range [][]api.Mat{{c.m}, {c.m, mat(3, 1, 1, 2, 3)}, {mat(3, 1, 1, 2, 3), c.m}, {mat(1, 1, most), mat(1, 1, most), c.m}, {mat(1, 0), mat(2, 0), mat(3, 0), c.m, mat(4, 0)}, append(slices.Repeat(mats(mat(0, 12)), 9), c.m), {c.m, mat(-1, 0), mat(1, 1), mat(1, 1, nan)}} {
			refusing(t, question{l: l}, c.err, "Triangle")
		}
	}
	refusing(t, question{m: mat(1, 2, 1, nan)}, api.ErrNumber, "QR", "Least")
	refusing(t, question{l: mats(mat(1, 1, nan), mat(-1, 1), mat(1, 1))}, api.ErrNumber, "Triangle")
	refusing(t, question{l: mats(mat(1, 1), mat(-1, 1), mat(1, 1, nan))}, api.ErrShape, "Triangle")
}

// Lists: too many numbers, ahead of such that aren't finite, each place of which counts.
func TestLists(t *testing.T) {
	for _, x := range unfit() {
		for _, n := range []int{1, 2, 13, 48} {
			for place := range n {
				l := make([]float64, n)
				l[place] = x
				refusing(t, question{x: l}, api.ErrNumber, "Length", "House")
				if n <= 12 {
					refusing(t, question{m: mat(n, 0), x: l}, api.ErrNumber, "Least")
				}
			}
		}
		refusing(t, question{x: append(make([]float64, 48), x)}, api.ErrRange, "Length", "House")
		refusing(t, question{x: list(most, x, most)}, api.ErrNumber, "Length", "House")
	}
	for _, n := range []int{49, 50, 96, 10000} {
		refusing(t, question{m: mat(1, 1, 1), x: repeated(nan, n)}, api.ErrRange, "Length", "House", "Least")
	}
}

// Rotate: rows that are none, ahead of rows that are the same, ahead of numbers, ahead of what is beyond.
func TestRows(t *testing.T) {
	m := mat(2, 1, most, most)
	for _, i := range []int{-1, 2, 12, math.MaxInt, math.MinInt} {
		for _, c := range []float64{1, 2, nan} {
			refusing(t, question{m: m, i: i, k: 0, a: c, b: c}, api.ErrRange, "Rotate")
			refusing(t, question{m: m, i: 1, k: i, a: c, b: c}, api.ErrRange, "Rotate")
			refusing(t, question{m: m, i: i, k: i, a: c, b: c}, api.ErrRange, "Rotate")
		}
	}
	for _, x := range append(unfit(), 1, 2) {
		refusing(t, question{m: m, i: 1, k: 1, a: x, b: 2}, api.ErrShape, "Rotate")
		refusing(t, question{m: m, i: 0, k: 0, a: 2, b: x}, api.ErrShape, "Rotate")
	}
	for _, x := range unfit() {
		for _, m := range []api.Mat{m, mat(2, 0)} {
			refusing(t, question{m: m, i: 1, k: 0, a: x, b: 2}, api.ErrNumber, "Rotate")
			refusing(t, question{m: m, i: 0, k: 1, a: 2, b: x}, api.ErrNumber, "Rotate")
			refusing(t, question{m: m, i: 0, k: 1, a: x, b: x}, api.ErrNumber, "Rotate")
		}
	}
	for _, m := range []api.Mat{mat(0, 0), mat(0, 12)} {
		refusing(t, question{m: m, a: nan}, api.ErrRange, "Rotate")
	}
	refusing(t, question{m: mat(1, 1, 1)}, api.ErrShape, "Rotate")
	refusing(t, question{m: mat(1, 1, 1), k: 1}, api.ErrRange, "Rotate")
}

// Triangle: none at all; rows that don't go together, ahead of too many columns, ahead of what is beyond.
func TestBesideWrong(t *testing.T) {
	wide := mat(1, 12, repeated(most, 12)...)
	refusing(t, question{}, api.ErrRange, "Triangle")
	refusing(t, question{l: mats()}, api.ErrRange, "Triangle")
	for _, c := range []struct {
		l   []api.Mat
		err api.Errno
	}{
		{mats(mat(1, 1, 1), mat(2, 1, 1, 1)), api.ErrShape}, {mats(mat(2, 1, 1, 1), mat(1, 1, 1)), api.ErrShape}, {mats(mat(0, 0), mat(1, 0)), api.ErrShape}, {mats(mat(1, 0), mat(0, 0)), api.ErrShape},
		{mats(mat(1, 2, most, most), mat(0, 0)), api.ErrShape}, {mats(mat(1, 0), mat(1, 0), mat(1, 1, 1), mat(12, 0)), api.ErrShape},
		{mats(wide, wide, wide, wide, mat(1, 1, 1), mat(2, 0)), api.ErrShape}, {mats(wide, wide, wide, wide, mat(0, 12)), api.ErrShape}, {mats(mat(2, 0), wide, wide, wide, wide, wide), api.ErrShape},
		{mats(wide, wide, wide, wide, mat(1, 1, 1)), api.ErrLong}, {mats(mat(1, 1, 0), wide, wide, wide, wide), api.ErrLong}, {slices.Repeat(mats(wide), 100), api.ErrLong}, {mats(wide, wide, wide, wide), api.ErrOver},
		{mats(wide, wide, wide, wide, mat(1, 1, nan), mat(2, 0)), api.ErrNumber}, {mats(mat(1, 0), mat(2, 0), mat(13, 0)), api.ErrRange},
	} {
		refusing(t, question{l: c.l}, c.err, "Triangle")
	}
}

// Fewer rows than columns, a list that doesn't go with the rows: behind what each argument has wrong by itself, ahead of rank and of what is beyond.
func TestSides(t *testing.T) {
	for _, m := range []api.Mat{mat(1, 2, 1, 1), mat(0, 1), mat(0, 12), mat(11, 12, make([]float64, 132)...), mat(1, 2, most, most), mat(2, 3, 0, 0, 0, 0, 0, 0)} {
		for _, n := range []int{0, 1, 2, 12, 48} {
			refusing(t, question{m: m, x: make([]float64, n)}, api.ErrShape, "QR", "Least")
		}
		refusing(t, question{m: m, x: list(nan)}, api.ErrNumber, "Least")
		refusing(t, question{m: m, x: repeated(nan, 49)}, api.ErrRange, "Least")
	}
	for _, m := range []api.Mat{mat(2, 1, 1, 1), mat(2, 1, 0, 0), mat(2, 1, most, most), mat(2, 0), eye(2)} {
		for _, n := range []int{0, 1, 3, 12, 13, 48} {
			refusing(t, question{m: m, x: repeated(1, n)}, api.ErrShape, "Least")
			if n > 0 {
				refusing(t, question{m: m, x: repeated(nan, n)}, api.ErrNumber, "Least")
			}
		}
		refusing(t, question{m: m, x: list(1, inf)}, api.ErrNumber, "Least")
	}
}
