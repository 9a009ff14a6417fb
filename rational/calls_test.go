package rational_test

import (
	"math"
	"math/big"
	"math/rand"
	"testing"

	"binnacle/api"
	"binnacle/rational"
)

// question is what is handed to a call.
type question struct {
	f, g api.Frac
	a, b api.FracMat
	m, n api.Mat
	x    float64
	i, k int64
	size int
}

// answer is what it says.
type answer struct {
	f    api.Frac
	m    api.FracMat
	n    api.Mat
	x    float64
	k    int
	sign api.Sign
	is   bool
	err  api.Errno
}

func fault(err api.Errno) answer { return answer{err: err} }

// as tells whether two answers are the same, bit by bit.
func (a answer) as(b answer) bool {
	return a.f == b.f && sameFracMat(a.m, b.m) && sameMat(a.n, b.n) && sameNumber(a.x, b.x) && a.k == b.k && a.sign == b.sign && a.is == b.is && a.err == b.err
}

// call is one of the face's calls, beside what the chapter says of it.
type call struct {
	name      string
	ask, want func(q question) answer
}

// of joins a call with its words, both of which are given as functions of one question.
func of[T any](name string, put func(a *answer, x T), ask func(q question) (T, api.Errno), want func(q question) T) call {
	return call{name,
		func(q question) (a answer) {
			x, err := ask(q)
			put(&a, x)
			a.err = err
			return a
		},
		func(q question) answer {
			return reckoned(func() (a answer) {
				put(&a, want(q))
				return a
			})
		},
	}
}

func putFrac(a *answer, x api.Frac)   { a.f = x }
func putMat(a *answer, x api.FracMat) { a.m = x }
func putNumber(a *answer, x float64)  { a.x = x }
func putNumbers(a *answer, x api.Mat) { a.n = x }
func putCount(a *answer, x int)       { a.k = x }
func putSign(a *answer, x api.Sign)   { a.sign = x }
func putTruth(a *answer, x bool)      { a.is = x }

// calls are all of the face.
func calls() []call {
	return append(fractionCalls(), matrixCalls()...)
}

func fractionCalls() []call {
	return []call{
		of("Is", putTruth, func(q question) (bool, api.Errno) { return rational.Is(q.f), api.OK }, func(q question) bool { return wordsIs(q.f) }),
		of("Make", putFrac, func(q question) (api.Frac, api.Errno) { return rational.Make(q.i, q.k) }, func(q question) api.Frac { return wordsMake(q.i, q.k) }),
		of("Of", putFrac, func(q question) (api.Frac, api.Errno) { return rational.Of(q.x) }, func(q question) api.Frac { return wordsOf(q.x) }),
		of("Near", putNumber, func(q question) (float64, api.Errno) { return rational.Near(q.f) }, func(q question) float64 { return nearest(taken(q.f)) }),
		of("Add", putFrac, func(q question) (api.Frac, api.Errno) { return rational.Add(q.f, q.g) }, func(q question) api.Frac { return told(new(big.Rat).Add(taken(q.f), taken(q.g))) }),
		of("Sub", putFrac, func(q question) (api.Frac, api.Errno) { return rational.Sub(q.f, q.g) }, func(q question) api.Frac { return told(new(big.Rat).Sub(taken(q.f), taken(q.g))) }),
		of("Mul", putFrac, func(q question) (api.Frac, api.Errno) { return rational.Mul(q.f, q.g) }, func(q question) api.Frac { return told(new(big.Rat).Mul(taken(q.f), taken(q.g))) }),
		of("Div", putFrac, func(q question) (api.Frac, api.Errno) { return rational.Div(q.f, q.g) }, func(q question) api.Frac { return wordsDiv(q.f, q.g) }),
		of("Compare", putCount, func(q question) (int, api.Errno) { return rational.Compare(q.f, q.g) }, func(q question) int { return taken(q.f).Cmp(taken(q.g)) }),
	}
}

func matrixCalls() []call {
	return []call{
		of("OfMat", putMat, func(q question) (api.FracMat, api.Errno) { return rational.OfMat(q.m) }, func(q question) api.FracMat {
			x := takenNumbers(q.m)
			return toldMat(q.m.Rows, q.m.Cols, func(i, j int) *big.Rat { return x[i][j] })
		}),
		of("NearMat", putNumbers, func(q question) (api.Mat, api.Errno) { return rational.NearMat(q.a) }, func(q question) api.Mat {
			out := mat(q.a.Rows, q.a.Cols)
			for _, row := range takenMat(q.a) {
				for _, x := range row {
					out.At = append(out.At, nearest(x))
				}
			}
			return out
		}),
		of("Unit", putMat, func(q question) (api.FracMat, api.Errno) { return rational.Unit(q.size) }, func(q question) api.FracMat {
			refuse(q.size < 0 || q.size > api.MaxDim, api.ErrRange)
			return eye(q.size)
		}),
		of("Turn", putMat, func(q question) (api.FracMat, api.Errno) { return rational.Turn(q.a) }, func(q question) api.FracMat { return wordsTurn(q.a) }),
		of("AddMat", putMat, func(q question) (api.FracMat, api.Errno) { return rational.AddMat(q.a, q.b) }, func(q question) api.FracMat { return wordsAdd(q.a, q.b) }),
		of("SubMat", putMat, func(q question) (api.FracMat, api.Errno) { return rational.SubMat(q.a, q.b) }, func(q question) api.FracMat { return wordsSub(q.a, q.b) }),
		of("MulMat", putMat, func(q question) (api.FracMat, api.Errno) { return rational.MulMat(q.a, q.b) }, func(q question) api.FracMat { return wordsMul(q.a, q.b) }),
		of("Scale", putMat, func(q question) (api.FracMat, api.Errno) { return rational.Scale(q.f, q.a) }, func(q question) api.FracMat { return wordsScale(q.f, q.a) }),
		of("Solve", putMat, func(q question) (api.FracMat, api.Errno) { return rational.Solve(q.a, q.b) }, func(q question) api.FracMat { return wordsSolve(q.a, q.b) }),
		of("Inverse", putMat, func(q question) (api.FracMat, api.Errno) { return rational.Inverse(q.a) }, func(q question) api.FracMat { return wordsInverse(q.a) }),
		of("Det", putFrac, func(q question) (api.Frac, api.Errno) { return rational.Det(q.a) }, func(q question) api.Frac { return wordsDet(q.a) }),
		of("Rank", putCount, func(q question) (int, api.Errno) { return rational.Rank(q.a) }, func(q question) int { return wordsRank(q.a) }),
		of("Sign", putSign, func(q question) (api.Sign, api.Errno) { return rational.Sign(q.a) }, func(q question) api.Sign { return wordsSign(q.a) }),
		of("SignMat", putSign, func(q question) (api.Sign, api.Errno) { return rational.SignMat(q.m) }, func(q question) api.Sign { return wordsSignMat(q.m) }),
		of("AtMost", putTruth, func(q question) (bool, api.Errno) { return rational.AtMost(q.a, q.b) }, func(q question) bool { return wordsAtMost(q.a, q.b) }),
		of("AtMostMat", putTruth, func(q question) (bool, api.Errno) { return rational.AtMostMat(q.m, q.n) }, func(q question) bool { return wordsAtMostMat(q.m, q.n) }),
	}
}

// brief keeps a long text from filling the screen.
func brief(f api.Frac) api.Frac {
	if len(f) > 200 {
		return f[:80] + ".." + f[len(f)-80:]
	}
	return f
}

func (q question) brief() question {
	q.f, q.g, q.a, q.b = brief(q.f), brief(q.g), briefMat(q.a), briefMat(q.b)
	return q
}

func (a answer) brief() answer {
	a.f, a.m = brief(a.f), briefMat(a.m)
	return a
}

func briefMat(m api.FracMat) api.FracMat {
	out := frac(m.Rows, m.Cols)
	for _, f := range m.At {
		out.At = append(out.At, brief(f))
	}
	return out
}

// held asks a call and holds what it says against the chapter's words.
func held(t *testing.T, wrong *int, c call, q question) answer {
	t.Helper()
	got, want := c.ask(q), c.want(q)
	if !got.as(want) {
		t.Errorf("%s of %+v:\n got %+v\nwant %+v", c.name, q.brief(), got.brief(), want.brief())
		few(t, wrong)
	}
	return got
}

// fitting is a question of a kind in which all goes together.
func fitting(r *rand.Rand, name string, kind int) question {
	rows, cols := chanceSide(r), chanceSide(r)
	q := question{f: chanceFrac(r, kind), g: chanceFrac(r, kind), x: chanceNumber(r, kind), i: chanceInt(r), k: chanceInt(r), size: r.Intn(13)}
	q.m = chanceNumbers(r, kind, rows, cols)
	q.a, q.b = chanceMat(r, kind, rows, cols), chanceMat(r, kind, rows, cols)
	switch name {
	case "Near":
		q.f = chanceNear(r)
	case "NearMat":
		q.a = grid(rows, cols, func(_, _ int) api.Frac { return chanceNear(r) })
	case "MulMat":
		q.b = chanceMat(r, kind, cols, chanceSide(r))
	case "Solve":
		q.a, q.b = chanceMat(r, kind, rows, rows), chanceMat(r, kind, rows, cols)
	case "Inverse", "Det":
		q.a = chanceMat(r, kind, rows, rows)
	case "Sign":
		q.a = chanceSymmetric(r, kind, rows)
	case "SignMat", "AtMostMat":
		q.m, q.n = chanceSymmetricNumbers(r, kind, rows), chanceSymmetricNumbers(r, kind, rows)
		if r.Intn(2) == 0 {
			q.m = risen(q.n, q.m)
		}
	case "AtMost":
		q.a, q.b = chanceSymmetric(r, kind, rows), chanceSymmetric(r, kind, rows)
		if r.Intn(2) == 0 {
			q.b = wordsAdd(q.a, q.b)
		}
	}
	return q
}

// risen is a matrix less the amounts of another one on its diagonal: so it is at most that rather often.
func risen(n, m api.Mat) api.Mat {
	out := mat(n.Rows, n.Cols, append([]float64(nil), n.At...)...)
	for i := range n.Rows {
		if x := out.At[i*n.Cols+i] - math.Abs(m.At[i*n.Cols+i]); isFinite(x) {
			out.At[i*n.Cols+i] = x
		}
	}
	return out
}

func chanceInt(r *rand.Rand) int64 {
	return []int64{0, 1, -1, 2, 6, -8, math.MaxInt64, math.MinInt64, math.MinInt64 + 1, int64(r.Intn(200) - 100), int64(r.Uint64()), int64(r.Uint64()) >> 32}[r.Intn(12)]
}

// chanceNear is a number, what lies half way to the next one, or something beside that.
func chanceNear(r *rand.Rand) api.Frac {
	x := chanceNumber(r, []int{kindOf, kindBits, kindSample}[r.Intn(3)])
	out := new(big.Rat).SetFloat64(x)
	switch y := math.Nextafter(x, inf); {
	case r.Intn(30) == 0: // half way from the greatest number to what is beyond it
		out.SetFloat64(most)
		out.Add(out, new(big.Rat).SetFloat64(0x1p970))
	case isFinite(y) && r.Intn(4) > 0:
		out.Add(out, new(big.Rat).SetFloat64(y))
		out.Quo(out, big.NewRat(2, 1))
	}
	little := new(big.Rat).SetFrac(big.NewInt(int64(r.Intn(3)-1)), new(big.Int).Exp(big.NewInt(3), big.NewInt(int64(r.Intn(3000))), nil))
	return textOf(out.Add(out, little))
}

// P11.1 to P11.7: all calls, of all kinds of fractions and numbers.
func TestByTheWords(t *testing.T) {
	r := rand.New(rand.NewSource(111))
	wrong := 0
	for _, c := range calls() {
		count := map[api.Errno]int{}
		signs, truths := map[api.Sign]int{}, map[bool]int{}
		for kind := range kinds {
			for range 40 {
				got := held(t, &wrong, c, fitting(r, c.name, kind))
				count[got.err]++
				signs[got.sign]++
				truths[got.is]++
			}
		}
		if count[api.OK] < 140 {
			t.Errorf("%s: answered only so often: %v", c.name, count)
		}
		switch c.name {
		case "Make", "Div", "Solve", "Inverse":
			if count[api.ErrSingular] < 10 {
				t.Errorf("%s: %v", c.name, count)
			}
		case "Sign", "SignMat":
			if signs[api.SignPositive] < 10 || signs[api.SignSemi] < 10 || signs[api.SignOther] < 10 {
				t.Errorf("%s: %v", c.name, signs)
			}
		case "AtMost", "AtMostMat":
			if truths[true] < 10 || truths[false] < 10 {
				t.Errorf("%s: %v", c.name, truths)
			}
		case "Near", "NearMat":
			if count[api.ErrOver] < 2 {
				t.Errorf("%s: %v", c.name, count)
			}
		}
	}
}
