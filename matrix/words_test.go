package matrix_test

import (
	"math/rand"
	"slices"
	"testing"

	"binnacle/api"
)

// held asks a call and holds what it says against the chapter's words.
func held(t *testing.T, wrong *int, c call, q question) answer {
	t.Helper()
	got, want := c.ask(q), c.want(q)
	if !got.is(want) {
		t.Errorf("%s of %+v:\n got %+v\nwant %+v", c.name, q, got, want)
		few(t, wrong)
	}
	return got
}

// byName is one call.
func byName(t *testing.T, name string) call {
	t.Helper()
	for _, c := range calls() {
		if c.name == name {
			return c
		}
	}
	t.Fatalf("no call %s", name)
	return call{}
}

// fitting is a question in which shapes go together, for whatever call, but now and then one that don't.
func fitting(r *rand.Rand, name string, kind int) question {
	n, k := chanceSide(r), chanceSide(r)
	q := question{a: chanceMat(r, kind, n, k), b: chanceMat(r, kind, n, k), x: chanceList(r, kind, k), y: chanceList(r, kind, k), p: r.Perm(n), s: chanceNumber(r, kind)}
	switch name {
	case "Mul":
		q.b = chanceMat(r, kind, k, chanceSide(r))
	case "Sandwich":
		q.b = chanceSquare(r, kind, k)
	case "Order", "Symmetric", "Lower", "Mirror", "Mean", "Trace":
		q.a = chanceSquare(r, kind, n)
	case "Beside":
		q.b = chanceMat(r, kind, n, r.Intn(13-k))
	case "Stack":
		q.b = chanceMat(r, kind, r.Intn(13-n), k)
	case "Outer":
		q.y = chanceList(r, kind, n)
	}
	for i := range n {
		q.grid = append(q.grid, slices.Clone(rowOf(mat(n, k, chanceList(r, kind, n*k)...), i)))
	}
	q.i, q.j = r.Intn(n+1), r.Intn(k+1)
	q.rows, q.cols = r.Intn(n-q.i+1), r.Intn(k-q.j+1)
	if name == "Zero" || name == "Eye" {
		q.rows, q.cols = r.Intn(15)-1, r.Intn(15)-1
	}
	return q
}

// All calls, of numbers of all kinds and of all shapes, against the words of P8.1 to P8.6; each must have been answered often enough, with every kind of number.
func TestByTheWords(t *testing.T) {
	r := rand.New(rand.NewSource(81))
	wrong := 0
	for _, c := range calls() {
		for kind := range kinds {
			answered := 0
			for range 60 {
				if held(t, &wrong, c, fitting(r, c.name, kind)).err == api.OK {
					answered++
				}
			}
			if answered < 10 {
				t.Errorf("%s, kind %d: answered only %d times", c.name, kind, answered)
			}
		}
	}
}

// Shapes that go together and such that don't: each pair of matrices, of which the numbers don't matter.
func TestShapes(t *testing.T) {
	r := rand.New(rand.NewSource(82))
	wrong := 0
	for _, name := range []string{"Beside", "Stack", "Add", "Sub", "Mul", "Sandwich", "Equal"} {
		c := byName(t, name)
		for _, n := range []int{0, 1, 2, 6, 7, 12} {
			for _, k := range []int{0, 1, 2, 6, 7, 12} {
				for _, rows := range []int{0, 1, 2, 6, 7, 12} {
					for _, cols := range []int{0, 1, 2, 5, 6, 12} {
						held(t, &wrong, c, question{a: chanceMat(r, 0, n, k), b: chanceMat(r, 0, rows, cols)})
					}
				}
			}
		}
	}
	for _, name := range []string{"Transpose", "Order", "MulVec", "Diag", "Dot", "Outer", "Symmetric", "Lower", "Mirror", "Mean", "Trace", "Norms", "Check"} {
		c := byName(t, name)
		for n := range 13 {
			for k := range 13 {
				held(t, &wrong, c, question{a: chanceMat(r, 0, n, k), x: chanceList(r, 0, n), y: chanceList(r, 0, k), p: r.Perm(k)})
			}
		}
	}
}

// P8.1, P8.2, P7: places and counts that are such, and that are none: below 0, past the end, of which the sums are beyond what an int holds.
func TestPlaces(t *testing.T) {
	r := rand.New(rand.NewSource(83))
	wrong := 0
	for _, name := range []string{"Zero", "Eye", "Get", "With", "Row", "Col", "Block"} {
		c := byName(t, name)
		for _, shape := range [][2]int{{0, 0}, {0, 3}, {3, 0}, {2, 3}, {12, 12}, {1, 12}, {12, 1}} {
			m := chanceMat(r, 5, shape[0], shape[1])
			for _, i := range places() {
				for _, j := range places() {
					held(t, &wrong, c, question{a: m, i: i, j: j, rows: i, cols: j, s: 7})
					held(t, &wrong, c, question{a: m, i: i, rows: j, cols: shape[1], s: 7})
					held(t, &wrong, c, question{a: m, j: i, cols: j, rows: shape[0], s: 7})
				}
			}
		}
	}
}

// Every block that there is.
func TestBlocks(t *testing.T) {
	r := rand.New(rand.NewSource(84))
	wrong := 0
	block := byName(t, "Block")
	for _, shape := range [][2]int{{0, 2}, {3, 4}, {5, 1}, {12, 3}} {
		m := chanceMat(r, 5, shape[0], shape[1])
		for i := range shape[0] + 2 {
			for j := range shape[1] + 2 {
				for rows := range shape[0] + 2 {
					for cols := range shape[1] + 2 {
						held(t, &wrong, block, question{a: m, i: i, j: j, rows: rows, cols: cols})
					}
				}
			}
		}
	}
}
