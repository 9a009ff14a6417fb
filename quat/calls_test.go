package quat_test

import (
	"math"
	"math/rand"
	"slices"
	"testing"

	"binnacle/api"
	"binnacle/quat"
)

// call is one of the face's calls, beside what the chapter says of it; it may refuse by these errors, and must have done so often enough.
type call struct {
	name      string
	ask, want func(q question) answer
	refused   []api.Errno
}

func saysQuat(q api.Quat, e api.Errno) answer { return answer{q: q, err: e} }

func saysVec(v api.Vec, e api.Errno) answer { return answer{v: v, err: e} }

func saysMat(m api.Mat, e api.Errno) answer { return answer{m: m, err: e} }

func saysNumber(x float64, e api.Errno) answer { return answer{x: x, err: e} }

// reckon turns a word into an answer.
func reckon(of func(q question) answer) func(q question) answer {
	return func(q question) answer { return reckoned(func() answer { return of(q) }) }
}

func wordQuat(of func(q question) api.Quat) func(q question) answer {
	return reckon(func(q question) answer { return answer{q: of(q)} })
}

func wordVec(of func(q question) api.Vec) func(q question) answer {
	return reckon(func(q question) answer { return answer{v: of(q)} })
}

func wordNumber(of func(q question) float64) func(q question) answer {
	return reckon(func(q question) answer { return answer{x: of(q)} })
}

func errs(l ...api.Errno) []api.Errno { return l }

// calls are all of the face.
func calls() []call {
	return []call{
		{"Unit", func(q question) answer { return saysQuat(quat.Unit(q.a)) }, wordQuat(func(q question) api.Quat { return wordsOfUnit(q.a) }), errs(api.ErrZero)},
		{"Conj", func(q question) answer { return saysQuat(quat.Conj(q.a)) }, wordQuat(func(q question) api.Quat { return wordsOfConj(q.a) }), nil},
		{"Mul", func(q question) answer { return saysQuat(quat.Mul(q.a, q.b)) }, wordQuat(func(q question) api.Quat { return wordsOfMul(q.a, q.b) }), errs(api.ErrOver)},
		{"Join", func(q question) answer { return saysQuat(quat.Join(q.a, q.b)) }, wordQuat(func(q question) api.Quat { return wordsOfJoin(q.a, q.b) }), errs(api.ErrOver, api.ErrZero)},
		{"Dot", func(q question) answer { return saysNumber(quat.Dot(q.a, q.b)) }, wordNumber(func(q question) float64 { return wordsOfDot(q.a, q.b) }), errs(api.ErrOver)},
		{"Turn", func(q question) answer { return saysVec(quat.Turn(q.a, q.v)) }, wordVec(func(q question) api.Vec { return wordsOfTurn(q.a, q.v) }), errs(api.ErrOver)},
		{"Cross", func(q question) answer { return saysVec(quat.Cross(q.v, q.w)) }, wordVec(func(q question) api.Vec { return wordsOfCross(q.v, q.w) }), errs(api.ErrOver)},
		{"Matrix", func(q question) answer { return saysMat(quat.Matrix(q.a)) }, reckon(func(q question) answer { return answer{m: wordsOfMatrix(q.a)} }), errs(api.ErrOver)},
		{"From", func(q question) answer { return saysQuat(quat.From(q.m)) }, wordQuat(func(q question) api.Quat { return wordsOfFrom(q.m) }), errs(api.ErrOver)},
		{"Cayley", func(q question) answer { return saysQuat(quat.Cayley(q.v)) }, wordQuat(func(q question) api.Quat { return wordsOfCayley(q.v) }), nil},
		{"Gibbs", func(q question) answer { return saysVec(quat.Gibbs(q.a)) }, wordVec(func(q question) api.Vec { return wordsOfGibbs(q.a) }), errs(api.ErrOver, api.ErrZero)},
		{"Between", func(q question) answer { return saysQuat(quat.Between(q.v, q.w)) }, wordQuat(func(q question) api.Quat {
			out, _ := wordsOfBetween(q.v, q.w)
			return out
		}), errs(api.ErrOver, api.ErrZero)},
		{"Nearest", func(q question) answer { return saysQuat(quat.Nearest(q.a, q.b)) }, wordQuat(func(q question) api.Quat { return wordsOfNearest(q.a, q.b) }), errs(api.ErrOver)},
		{"Mix", func(q question) answer { return saysQuat(quat.Mix(q.a, q.b, q.t)) }, wordQuat(func(q question) api.Quat { return wordsOfMix(q.a, q.b, q.t) }), errs(api.ErrOver, api.ErrZero)},
		{"Apart", func(q question) answer { return saysNumber(quat.Apart(q.a, q.b)) }, wordNumber(func(q question) float64 { return wordsOfApart(q.a, q.b) }), errs(api.ErrOver)},
		{"Good", func(q question) answer { return answer{yes: quat.Good(q.a)} }, reckon(func(q question) answer { return answer{yes: wordsOfGood(q.a)} }), nil},
	}
}

// takes tells what a call looks at.
func takes(name string) (quats, vecs int, matrix, number bool) {
	switch name {
	case "Unit", "Conj", "Matrix", "Gibbs", "Good":
		return 1, 0, false, false
	case "Mul", "Join", "Dot", "Nearest", "Apart":
		return 2, 0, false, false
	case "Mix":
		return 2, 0, false, true
	case "Turn":
		return 1, 1, false, false
	case "Cayley":
		return 0, 1, false, false
	case "Cross", "Between":
		return 0, 2, false, false
	}
	return 0, 0, true, false
}

// held asks a call and holds what it says against the chapter's words.
func held(t *testing.T, wrong *int, c call, q question) answer {
	t.Helper()
	got, want := c.ask(q), c.want(q)
	if !got.is(want) {
		t.Errorf("%s of %+v:\n got %+v\nwant %+v", c.name, q, got, want)
		few(t, wrong)
	}
	return got
}

// fitting is a question of a kind. What is great or little comes beside what is mild, too: else nothing but ErrOver and noughts would come.
func fitting(r *rand.Rand, name string, kind int) question {
	other := kind
	if (kind == kindGreat || kind == kindLittle) && r.Intn(3) > 0 {
		other = []int{kindMild, kindUnit}[r.Intn(2)]
	}
	q := question{a: chanceQuat(r, kind), b: chanceQuat(r, other), v: chanceVec(r, kind), w: chanceVec(r, other), m: chance3(r, kind)}
	q.t = []float64{0, minus, 1, 0.5, 0.25, 2, -1, chanceNumber(r, kindUnit), chanceNumber(r, kindMild), chanceNumber(r, kindEdge), chanceNumber(r, kindBits)}[r.Intn(11)]
	switch {
	case name == "Good":
		q.a = chanceNear(r)
	case name == "Matrix" && kind == kindGreat:
		q.a = quatOf(scaled(r, 508, 512), scaled(r, 508, 512), scaled(r, 508, 512), scaled(r, 508, 512))
	case name == "Turn" && r.Intn(3) > 0:
		q.a = chanceUnit(r)
	case name == "From" && kind == kindGreat && r.Intn(2) == 0:
		q.m = chanceTurn(r)
		q.m.At[r.Intn(9)] = chanceNumber(r, kind)
	case name == "From" && kind != kindGreat && r.Intn(3) > 0:
		q.m = chanceTurn(r)
	case name == "Between" && r.Intn(3) > 0:
		q.w = along(r, q.v)
	case r.Intn(6) == 0:
		q.b = q.a
	}
	return q
}

// P12.1 to P12.7: all calls, of all kinds of numbers, bit by bit; every call must have been answered, and refused in each of its ways, often enough.
func TestByTheWords(t *testing.T) {
	r := rand.New(rand.NewSource(121))
	wrong := 0
	for _, c := range calls() {
		count, yes := map[api.Errno]int{}, 0
		for kind := range kinds {
			answered := 0
			for range 160 {
				got := held(t, &wrong, c, fitting(r, c.name, kind))
				if count[got.err]++; got.err == api.OK {
					answered++
				}
				if got.yes {
					yes++
				}
			}
			if answered < 15 {
				t.Errorf("%s, kind %d: answered only %d times", c.name, kind, answered)
			}
		}
		for err, n := range count {
			if err != api.OK && (n < 10 || !slices.Contains(c.refused, err)) {
				t.Errorf("%s: refused by %d, %d times", c.name, err, n)
			}
		}
		for _, err := range c.refused {
			if count[err] < 10 {
				t.Errorf("%s: refused by %d only %d times", c.name, err, count[err])
			}
		}
		if c.name == "Good" && (yes < 200 || yes > 9*160-200) {
			t.Errorf("Good: %d times", yes)
		}
	}
}

// goneOn is Turn by the machine's steps, with what isn't finite going on.
func goneOn(q api.Quat, v api.Vec) api.Vec {
	p, t, u := vec(q.X, q.Y, q.Z), api.Vec{}, api.Vec{}
	for i := range 3 {
		j, k := (i+1)%3, (i+2)%3
		t[i] = float64(float64(p[j]*v[k])-float64(p[k]*v[j])) * 2
	}
	for i := range 3 {
		j, k := (i+1)%3, (i+2)%3
		u[i] = float64(p[j]*t[k]) - float64(p[k]*t[j])
	}
	for i := range 3 {
		v[i] = v[i] + float64(q.W*t[i]) + u[i]
	}
	return v
}

// P12.3: numbers of Turn's way that aren't finite go on; it is ErrOver just if one at the end isn't finite.
func TestGoingOn(t *testing.T) {
	r := rand.New(rand.NewSource(1211))
	over, fine := 0, 0
	for round := range 30000 {
		kind := []int{kindEdge, kindBits, kindGreat, kindNought}[round%4]
		q, v := chanceQuat(r, kind), chanceVec(r, []int{kindEdge, kindBits, kindGreat, kindUnit}[r.Intn(4)])
		if r.Intn(2) == 0 {
			q = quatFrom(list(nought(r), q.X, nought(r), q.Z))
		}
		want := saysVec(goneOn(q, v), api.OK)
		if !isFinite(want.v[0]) || !isFinite(want.v[1]) || !isFinite(want.v[2]) {
			want = fault(api.ErrOver)
			over++
		} else {
			fine++
		}
		if got := saysVec(quat.Turn(q, v)); !got.is(want) {
			t.Fatalf("Turn of %x, %x: %+v, not %+v", q, v, got, want)
		}
	}
	if over < 5000 || fine < 5000 {
		t.Errorf("beyond %d times, not so %d times", over, fine)
	}
}

// What the oracle reckons in fractions is what the machine's single steps are, so that it may be trusted with more of them.
func TestOracle(t *testing.T) {
	stopped := func(of func() float64) float64 {
		a := reckoned(func() answer { return answer{x: of()} })
		if a.err != api.OK {
			return inf
		}
		return a.x
	}
	orInf := func(x float64) float64 {
		if isFinite(x) {
			return x
		}
		return inf
	}
	for _, x := range numbers() {
		for _, y := range numbers() {
			got := list(stopped(func() float64 { return less(x, y) }), stopped(func() float64 { return plus(x, y) }), stopped(func() float64 { return times(x, y) }))
			want := list(orInf(x-y), orInf(x+y), orInf(x*y))
			if y != 0 {
				got, want = append(got, stopped(func() float64 { return over(x, y) })), append(want, orInf(x/y))
			}
			if !sameList(got, want) {
				t.Errorf("%x and %x: %x, not %x", x, y, got, want)
			}
		}
		if x > 0 && root(x) != math.Sqrt(x) {
			t.Errorf("the root of %x: %x", x, root(x))
		}
		for _, k := range []int{-2100, -1075, -1074, -53, -1, 0, 1, 1023, 1074, 2097, 2100} {
			if got := stopped(func() float64 { return timesTwo(x, k) }); !sameNumber(got, orInf(math.Ldexp(x, k))) {
				t.Errorf("%x times 2^%d: %x", x, k, got)
			}
		}
		if x != 0 && powerOf(x) != math.Ilogb(x) {
			t.Errorf("the power of %x: %d", x, powerOf(x))
		}
	}
}
