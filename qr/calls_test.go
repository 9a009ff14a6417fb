package qr_test

import (
	"math"
	"math/rand"
	"testing"

	"binnacle/api"
	"binnacle/qr"
)

// call is one of the face's calls, beside what the chapter says of it.
type call struct {
	name      string
	ask, want func(q question) answer
}

func askLength(x ...float64) answer {
	length, e := qr.Length(x)
	return answer{a: length, err: e}
}

func askGivens(a, b float64) answer {
	c, s, r, e := qr.Givens(a, b)
	return answer{a: c, b: s, c: r, err: e}
}

func askRotate(m api.Mat, i, k int, c, s float64) answer {
	out, e := qr.Rotate(m, i, k, c, s)
	return answer{m: out, err: e}
}

func askHouse(x ...float64) answer {
	v, w, alpha, e := qr.House(x)
	return answer{list: v, a: w, b: alpha, err: e}
}

func askTriangle(l ...api.Mat) answer {
	out, e := qr.Triangle(l)
	return answer{m: out, err: e}
}

func askQR(m api.Mat) answer {
	q, r, e := qr.QR(m)
	return answer{m: q, r: r, err: e}
}

func askLeast(m api.Mat, b ...float64) answer {
	x, e := qr.Least(m, b)
	return answer{list: x, err: e}
}

// reckon turns a word into an answer.
func reckon(of func(q question) answer) func(q question) answer {
	return func(q question) answer { return reckoned(func() answer { return of(q) }) }
}

// calls are all of the face.
func calls() []call {
	return []call{
		{"Length", func(q question) answer { return askLength(q.x...) }, reckon(func(q question) answer { return answer{a: wordsOfLength(q.x)} })},
		{"Givens", func(q question) answer { return askGivens(q.a, q.b) }, reckon(func(q question) answer {
			c, s, r := wordsOfGivens(q.a, q.b)
			return answer{a: c, b: s, c: r}
		})},
		{"Rotate", func(q question) answer { return askRotate(q.m, q.i, q.k, q.a, q.b) }, reckon(func(q question) answer { return answer{m: wordsOfRotate(q.m, q.i, q.k, q.a, q.b)} })},
		{"House", func(q question) answer { return askHouse(q.x...) }, reckon(func(q question) answer {
			v, w, alpha := wordsOfHouse(q.x)
			return answer{list: v, a: w, b: alpha}
		})},
		{"Triangle", func(q question) answer { return askTriangle(q.l...) }, reckon(func(q question) answer { return answer{m: wordsOfTriangle(q.l)} })},
		{"QR", func(q question) answer { return askQR(q.m) }, reckon(func(q question) answer {
			one, other := wordsOfQR(q.m)
			return answer{m: one, r: other}
		})},
		{"Least", func(q question) answer { return askLeast(q.m, q.x...) }, reckon(func(q question) answer { return answer{list: wordsOfLeast(q.m, q.x)} })},
	}
}

// held asks a call and holds what it says against the chapter's words.
func held(t *testing.T, wrong *int, c call, q question) answer {
	t.Helper()
	got, want := c.ask(q), c.want(q)
	if !got.is(want) {
		t.Errorf("%s of %+v:\n got %+v\nwant %+v", c.name, q, got, want)
		few(t, wrong)
	}
	return got
}

// fitting is a question of a kind in which all goes together.
func fitting(r *rand.Rand, name string, kind int) question {
	q := question{a: chanceNumber(r, kind), b: chanceNumber(r, kind)}
	switch name {
	case "Givens":
		if kind == kindGreat {
			q.a, q.b = scaled(r, 1022, 1023), scaled(r, 1022, 1023)
		}
	case "Length", "House":
		q.x = chanceList(r, kind, chanceWide(r))
	case "Rotate":
		for q.m.Rows < 2 {
			q.m = chanceMat(r, kind, chanceSide(r), chanceSide(r))
		}
		p := r.Perm(q.m.Rows)
		q.i, q.k = p[0], p[1]
		if r.Intn(2) == 0 {
			q.a, q.b = scaled(r, -1, 0), scaled(r, -1, 0)
		}
	case "Triangle":
		q.l = chanceBeside(r, kind, chanceSide(r), []int{6, 6, 6, 16, api.MaxWide}[r.Intn(5)])
	case "QR", "Least":
		q.m = chanceTall(r, kind)
		q.x = chanceList(r, kind, q.m.Rows)
	}
	return q
}

// P10.1 to P10.6: all calls, of all kinds of numbers, bit by bit; every call must have been answered, and refused in each of its ways, often enough.
func TestByTheWords(t *testing.T) {
	r := rand.New(rand.NewSource(101))
	wrong := 0
	for _, c := range calls() {
		count := map[api.Errno]int{}
		for kind := range kinds {
			answered := 0
			for range 80 {
				got := held(t, &wrong, c, fitting(r, c.name, kind))
				if count[got.err]++; got.err == api.OK {
					answered++
				}
			}
			if answered < 12 {
				t.Errorf("%s, kind %d: answered only %d times", c.name, kind, answered)
			}
		}
		if count[api.ErrOver] < 10 || c.name == "Least" && count[api.ErrRank] < 10 {
			t.Errorf("%s: refused only so often: %v", c.name, count)
		}
	}
}

// What the oracle reckons in fractions is what the machine's single steps are, so that it may be trusted with more of them.
func TestOracle(t *testing.T) {
	stopped := func(of func() float64) float64 {
		a := reckoned(func() answer { return answer{a: of()} })
		if a.err != api.OK {
			return inf
		}
		return a.a
	}
	orInf := func(x float64) float64 {
		if isFinite(x) {
			return x
		}
		return inf
	}
	for _, x := range numbers() {
		for _, y := range numbers() {
			got := list(stopped(func() float64 { return less(x, y) }), stopped(func() float64 { return plus(x, y) }), stopped(func() float64 { return times(x, y) }))
			want := list(orInf(x-y), orInf(x+y), orInf(x*y))
			if y != 0 {
				got, want = append(got, stopped(func() float64 { return over(x, y) })), append(want, orInf(x/y))
			}
			if !sameList(got, want) {
				t.Errorf("%x and %x: %x, not %x", x, y, got, want)
			}
		}
		if x > 0 && root(x) != math.Sqrt(x) {
			t.Errorf("the root of %x: %x", x, root(x))
		}
		for _, k := range []int{-2100, -1075, -1074, -53, -1, 0, 1, 1023, 1074, 2097, 2100} {
			if got := stopped(func() float64 { return timesTwo(x, k) }); !sameNumber(got, orInf(math.Ldexp(x, k))) {
				t.Errorf("%x times 2^%d: %x", x, k, got)
			}
		}
		if k, some := powerOf(list(x)); some != (x != 0) || some && k != math.Ilogb(x) {
			t.Errorf("the power of %x: %d", x, k)
		}
	}
}
