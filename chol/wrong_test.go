package chol_test

import (
	"slices"
	"testing"

	"binnacle/api"
)

// positive are matrices that all symmetric calls take; the diagonal ones are root triangles too.
func positive() []api.Mat {
	return []api.Mat{mat(0, 0), square(4), square(4, 2, 2, 5), diagonal(4, 9, 16), diagonal(ones(12)...)}
}

// indefinite are symmetric, but no call gets through them.
func indefinite() []api.Mat {
	return []api.Mat{square(0), square(1, 1, 1, 1), diagonal(1, 1, minus), square(least, 1, 1, -1)}
}

// goods are the matrices of which P8 says nothing wrong.
func goods() []api.Mat {
	return slices.Concat(positive(), indefinite(), lopsided(), noRoots(), oblong())
}

func spoiltOnes() []api.Mat {
	var out []api.Mat
	for _, c := range spoiltMats() {
		out = append(out, c.m)
	}
	return out
}

// lists are right sides: such that go with something, and such that don't.
func lists() [][]float64 {
	return [][]float64{nil, {}, {1}, {nan}, {1, 2}, {inf, 1}, {1, -inf}, {1, 2, 3}, {1, 2, nan}, ones(12), append(ones(11), nan), ones(13), append(ones(12), nan), append(ones(500), inf)}
}

// P4, P8: whatever is wrong, in one argument or in both, in one way or in several: the words' first error, with zero values beside it.
func TestWhateverIsWrong(t *testing.T) {
	wrong := 0
	all := append(goods(), spoiltOnes()...)
	for _, c := range calls() {
		for _, a := range all {
			for _, x := range lists() {
				held(t, &wrong, c, question{a: a, x: x, b: mat(len(x), 1, x...)})
			}
			if c.name != "SolveMat" {
				continue
			}
			for _, b := range all {
				held(t, &wrong, c, question{a: a, b: b})
			}
		}
	}
}

// refusing asks all calls, and tells of those that don't refuse as they should.
func refusing(t *testing.T, q question, err api.Errno, names ...string) {
	t.Helper()
	for _, c := range calls() {
		if len(names) > 0 && !slices.Contains(names, c.name) {
			continue
		}
		if got := c.ask(q); !got.is(fault(err)) {
			t.Errorf("%s of %v: %+v, not error %d", c.name, q, got, err)
		}
	}
}

// P8: a matrix that isn't good is told ahead of all that comes behind it.
func TestSpoiltFirst(t *testing.T) {
	for _, c := range spoiltMats() {
		for _, x := range lists() {
			refusing(t, question{a: c.m, x: x, b: mat(-1, 20, x...)}, c.err)
		}
		for _, a := range goods() {
			if a.Rows == a.Cols {
				refusing(t, question{a: a, b: c.m}, c.err, "SolveMat")
			}
		}
	}
	for _, x := range unfit() {
		refusing(t, question{a: mat(1, 2, 1, x)}, api.ErrNumber)
	}
}

// Not square: ErrShape, ahead of lists, of symmetry, of triangles.
func TestOblong(t *testing.T) {
	for _, m := range oblong() {
		for _, x := range lists() {
			refusing(t, question{a: m, x: x, b: mat(20, 20, x...)}, api.ErrShape)
		}
	}
}

// Not symmetric by a number, a bit, a sign: told ahead of what isn't positive; in Solve and SolveMat behind what is wrong with b.
func TestLopsided(t *testing.T) {
	symmetric := []string{"Chol", "LDL", "Solve", "SolveMat", "Inverse", "Det", "Pivots", "Verified"}
	for _, m := range lopsided() {
		n := m.Rows
		refusing(t, question{a: m, x: make([]float64, n), b: mat(n, 0)}, api.ErrSymmetric, symmetric...)
	}
	twisted := square(0, 1, 2, 0)
	for _, c := range []struct {
		x   []float64
		err api.Errno
	}{{nil, api.ErrShape}, {list(1), api.ErrShape}, {list(1, nan, 3), api.ErrShape}, {list(1, nan), api.ErrNumber}, {list(inf, 1), api.ErrNumber}, {list(1, 1), api.ErrSymmetric}, {make([]float64, 13), api.ErrShape}} {
		refusing(t, question{a: twisted, x: c.x}, c.err, "Solve")
	}
	for _, c := range []struct {
		b   api.Mat
		err api.Errno
	}{{mat(0, 0), api.ErrShape}, {mat(3, 2, 1, 2, 3, 4, 5, 6), api.ErrShape}, {mat(2, 1, 1), api.ErrShape}, {mat(13, 1), api.ErrRange}, {mat(3, 1, 1, 2, nan), api.ErrNumber}, {mat(2, 1, 1, inf), api.ErrNumber}, {mat(2, 3, 1, 2, 3, 4, 5, 6), api.ErrSymmetric}} {
		refusing(t, question{a: twisted, b: c.b}, c.err, "SolveMat")
	}
}

// What is wrong with b is told ahead of a matrix that isn't positive, and of steps that are beyond.
func TestRightSideFirst(t *testing.T) {
	for _, a := range []api.Mat{square(0, 0, 0, 0), square(1, 1, 1, 1), square(least, 1, 1, 1)} {
		refusing(t, question{a: a, x: list(1)}, api.ErrShape, "Solve")
		refusing(t, question{a: a, x: list(nan, 1)}, api.ErrNumber, "Solve")
		refusing(t, question{a: a, b: mat(1, 2, 1, 2)}, api.ErrShape, "SolveMat")
		refusing(t, question{a: a, b: mat(2, 1, 1, nan)}, api.ErrNumber, "SolveMat")
		refusing(t, question{a: a, b: mat(2, -1)}, api.ErrRange, "SolveMat")
	}
	refusing(t, question{a: square(1, 0, 0x1p600, 1), x: list(most)}, api.ErrShape, "Lower", "Upper")
	refusing(t, question{a: square(1, 0, 0x1p600, 1), x: list(most, nan)}, api.ErrNumber, "Lower", "Upper")
}

// No root triangle: by a nought's sign, by a number above the diagonal, by the diagonal; told ahead of what is wrong with b.
func TestNoRoots(t *testing.T) {
	for _, m := range noRoots() {
		for _, x := range lists() {
			refusing(t, question{a: m, x: x}, api.ErrTriangle, "Lower", "Upper", "Square")
		}
	}
	roots := []string{"Lower", "Upper", "Square"}
	for _, m := range []api.Mat{square(least), square(1, 0, minus, 1), square(least, 0, -most, most)} {
		for _, c := range calls() {
			if got := c.ask(question{a: m, x: make([]float64, m.Rows)}); slices.Contains(roots, c.name) && got.err == api.ErrTriangle {
				t.Errorf("%s refuses the root triangle %v", c.name, m)
			}
		}
	}
}

// Each place counts for being symmetric, each above the diagonal and on it for being a root triangle.
func TestEachPlaceCounts(t *testing.T) {
	for _, n := range []int{2, 3, 12} {
		eye := diagonal(ones(n)...)
		for i := range n {
			for j := range n {
				if i != j {
					refusing(t, question{a: with(eye, i, j, minus), x: ones(n), b: mat(n, 0)}, api.ErrSymmetric, "Chol", "LDL", "Solve", "SolveMat", "Inverse", "Det", "Pivots", "Verified")
				}
				if i <= j {
					refusing(t, question{a: with(eye, i, j, minus), x: ones(n)}, api.ErrTriangle, "Lower", "Upper", "Square")
				} else if got := askSquare(with(eye, i, j, minus)); got.err != api.OK {
					t.Errorf("-0 below the diagonal at (%d, %d): %+v", i, j, got)
				}
			}
		}
	}
}
