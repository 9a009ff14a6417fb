package rational_test

import (
	"fmt"
	"math"
	"strings"
	"testing"

	"binnacle/api"
	"binnacle/rational"
)

// isFrac: a call told this fraction.
func isFrac(t *testing.T, what string, want api.Frac) func(f api.Frac, e api.Errno) {
	return func(f api.Frac, e api.Errno) {
		t.Helper()
		if f != want || e != api.OK {
			t.Errorf("%s: %s, %d; not %s", what, brief(f), e, brief(want))
		}
	}
}

// isMat: it told this matrix.
func isMat(t *testing.T, what string, want api.FracMat) func(m api.FracMat, e api.Errno) {
	return func(m api.FracMat, e api.Errno) {
		t.Helper()
		if !sameFracMat(m, want) || e != api.OK {
			t.Errorf("%s: %v, %d; not %v", what, briefMat(m), e, briefMat(want))
		}
	}
}

// isNumber: it told these bits.
func isNumber(t *testing.T, what string, want float64) func(x float64, e api.Errno) {
	return func(x float64, e api.Errno) {
		t.Helper()
		if !sameNumber(x, want) || e != api.OK {
			t.Errorf("%s: %x, %d; not %x", what, x, e, want)
		}
	}
}

// is: it told this, of whatever kind.
func is[T comparable](t *testing.T, what string, want T) func(got T, e api.Errno) {
	return func(got T, e api.Errno) {
		t.Helper()
		if got != want || e != api.OK {
			t.Errorf("%s: %v, %d; not %v", what, got, e, want)
		}
	}
}

// no: it told this error, and nothing else.
func no[T comparable](t *testing.T, what string, err api.Errno) func(got T, e api.Errno) {
	return func(got T, e api.Errno) {
		t.Helper()
		var none T
		if got != none || e != err {
			t.Errorf("%s: %.100v, %d; not error %d", what, got, e, err)
		}
	}
}

// noMat: likewise of matrices.
func noMat(t *testing.T, what string, err api.Errno) func(m api.FracMat, e api.Errno) {
	return func(m api.FracMat, e api.Errno) {
		t.Helper()
		if m.Rows != 0 || m.Cols != 0 || len(m.At) != 0 || e != err {
			t.Errorf("%s: %v, %d; not error %d", what, briefMat(m), e, err)
		}
	}
}

// The chapter's examples, as they stand.
func TestExamples(t *testing.T) {
	isFrac(t, "Make(6, -8)", "-3/4")(rational.Make(6, -8))
	for _, f := range []api.Frac{"2/4", "3/1", "-0", "03"} {
		if rational.Is(f) {
			t.Errorf("Is(%s)", f)
		}
	}
	isFrac(t, "Of(0.1)", "3602879701896397/36028797018963968")(rational.Of(0.1))
	isNumber(t, "Near(1/3)", 0x1.5555555555555p-2)(rational.Near("1/3"))
	no[api.Frac](t, "Div(1, 0)", api.ErrSingular)(rational.Div("1", "0"))
	m := frac(2, 2, "1", "2", "3", "4")
	isMat(t, "Inverse", frac(2, 2, "-2", "1", "3/2", "-1/2"))(rational.Inverse(m))
	isFrac(t, "Det", "-2")(rational.Det(m))
	is(t, "Rank", 1)(rational.Rank(frac(2, 2, "1", "2", "2", "4")))
	isMat(t, "Solve", frac(1, 1, "3/2"))(rational.Solve(frac(1, 1, "2"), frac(1, 1, "3")))
	for _, c := range []struct {
		m    api.FracMat
		sign api.Sign
	}{
		{frac(2, 2, "1", "1", "1", "1"), 2}, {frac(2, 2, "1", "2", "2", "1"), 1}, {frac(2, 2, "2", "1", "1", "2"), 3}, {frac(2, 2, "0", "0", "0", "0"), 2}, {frac(2, 2, "0", "1", "1", "0"), 1},
	} {
		is(t, fmt.Sprint(c.m), c.sign)(rational.Sign(c.m))
	}
	no[api.Sign](t, "Sign", api.ErrFracSym)(rational.Sign(frac(2, 2, "1", "2", "3", "1")))
	is(t, "AtMost", true)(rational.AtMost(eye(2), frac(2, 2, "2", "1", "1", "2")))
	is(t, "AtMost of one number", false)(rational.AtMost(frac(1, 1, "2"), frac(1, 1, "1")))
}

func TestIs(t *testing.T) {
	good := append(fractions(), longest(), "-"+longest(), "1/"+longest(), "-1/"+longest(), longest()+"/"+power(api.MaxBits-1, 0), power(api.MaxBits-1, 0)+"/"+longest(), power(api.MaxBits-1, 0), "1/"+power(api.MaxBits-1, 0))
	for _, f := range good {
		if !rational.Is(f) {
			t.Errorf("Is(%s) is false", brief(f))
		}
	}
	digits := api.Frac(strings.Repeat("9", 100000))
	bad := append(noFractions(), tooLong(), "-"+tooLong(), "1/"+tooLong(), "-1/"+tooLong(), tooLong()+"/3", "3/"+power(api.MaxBits, 1), tooLong()+"/"+longest(), longest()+"/"+tooLong(), longest()+"/"+longest(), "0"+longest(), digits, "-"+digits, "1/"+digits, digits+"/7", power(70000, 0))
	for _, f := range bad {
		if rational.Is(f) {
			t.Errorf("Is(%s) is true", brief(f))
		}
	}
}

// Every byte that is set into a fraction's text somewhere, in place of one or beside it, leaves one text or none: by the words.
func TestIsOfSpoiltTexts(t *testing.T) {
	wrong := 0
	for _, f := range []api.Frac{"0", "7", "-30", "3/4", "-10/21"} {
		for place := range len(f) + 1 {
			for b := range 256 {
				for _, rest := range []int{place, min(place+1, len(f))} {
					held(t, &wrong, fractionCalls()[0], question{f: f[:place] + api.Frac([]byte{byte(b)}) + f[rest:]})
				}
			}
		}
	}
}

func TestMakeEdges(t *testing.T) {
	const least = math.MinInt64
	for _, c := range []struct {
		a, b int64
		want api.Frac
	}{
		{least, 1, "-9223372036854775808"}, {least, -1, "9223372036854775808"}, {1, least, "-1/9223372036854775808"}, {-1, least, "1/9223372036854775808"}, {least, least, "1"}, {least, 2, "-4611686018427387904"}, {6, least, "-3/4611686018427387904"},
		{least, math.MaxInt64, "-9223372036854775808/9223372036854775807"}, {math.MaxInt64, least, "-9223372036854775807/9223372036854775808"}, {math.MaxInt64, math.MaxInt64, "1"},
		{0, 1, "0"}, {0, -1, "0"}, {0, least, "0"}, {5, 1, "5"}, {5, -1, "-5"}, {-5, 10, "-1/2"}, {-6, -4, "3/2"},
	} {
		isFrac(t, fmt.Sprint("Make", c.a, c.b), c.want)(rational.Make(c.a, c.b))
	}
	for _, a := range []int64{0, 1, -1, least} {
		no[api.Frac](t, fmt.Sprint("Make", a, 0), api.ErrSingular)(rational.Make(a, 0))
	}
}

func TestOfEdges(t *testing.T) {
	for _, c := range []struct {
		x    float64
		want api.Frac
	}{
		{0, "0"}, {minus, "0"}, {1, "1"}, {-1, "-1"}, {0.5, "1/2"}, {-2.5, "-5/2"}, {least, "1/" + power(1074, 0)}, {-3 * least, "-3/" + power(1074, 0)}, {0x1p-1022, "1/" + power(1022, 0)}, {0x1p-1022 - least, power(52, -1) + "/" + power(1074, 0)},
		{0x1p1023, power(1023, 0)}, {1<<53 - 1, "9007199254740991"}, {0x1p64, power(64, 0)}, {0x1p-64, "1/" + power(64, 0)},
	} {
		isFrac(t, fmt.Sprintf("Of(%x)", c.x), c.want)(rational.Of(c.x))
	}
	wrong := 0
	for _, x := range append(numbers(), unfit()...) {
		held(t, &wrong, fractionCalls()[2], question{x: x})
	}
}

func TestNearEdges(t *testing.T) {
	greatest := func(more int64) api.Frac { // what half way beyond the greatest number is, and so much more
		f, _ := rational.Of(most)
		g, _ := rational.Of(0x1p970)
		f, _ = rational.Add(f, g)
		h, _ := rational.Make(more, 1)
		f, _ = rational.Add(f, h)
		return f
	}
	for _, c := range []struct {
		f    api.Frac
		want float64
	}{
		{"0", 0}, {"1", 1}, {"-1", -1}, {"2/3", 2.0 / 3}, {power(53, 1), 0x1p53}, {power(53, 3), 0x1p53 + 4}, {power(54, 2), 0x1p54}, {power(54, 3), 0x1p54 + 4}, {power(54, 6), 0x1p54 + 8}, {"-" + power(53, 1), -0x1p53},
		{"1/" + power(1074, 0), least}, {"1/" + power(1075, 0), 0}, {"-1/" + power(1075, 0), minus}, {"3/" + power(1075, 0), 2 * least}, {"5/" + power(1075, 0), 2 * least}, {"-3/" + power(1075, 0), -2 * least},
		{"1/" + power(1075, 1), 0}, {"-1/" + power(1075, 1), minus}, {"1/" + power(1075, -1), least}, {"-1/" + power(1075, -1), -least}, {"1/" + power(1076, 0), 0}, {"-1/" + power(1076, 0), minus}, {"-1/" + power(1074, 1), -least},
		{"1/" + longest(), 0}, {"-1/" + longest(), minus}, {power(65535, 1) + "/" + power(65535, 0), 1}, {power(65534, 1) + "/" + power(65535, 0), 0.5}, {"-" + power(60000, 0) + "/" + power(60000, -1), -1}, {longest() + "/" + power(65535, 0), 2},
		{greatest(-1), most}, {"-" + greatest(-1), -most}, {power(1023, 0), 0x1p1023}, {power(1023, 1), 0x1p1023},
	} {
		isNumber(t, "Near("+string(brief(c.f))+")", c.want)(rational.Near(c.f))
	}
	for _, f := range []api.Frac{greatest(0), greatest(1), power(1024, 0), power(1024, -1), longest(), power(65535, 0) + "/3"} {
		no[float64](t, "Near("+string(brief(f))+")", api.ErrOver)(rational.Near(f))
		no[float64](t, "Near(-"+string(brief(f))+")", api.ErrOver)(rational.Near("-" + f))
		if m, e := rational.NearMat(frac(1, 3, "1", f, "2")); !sameMat(m, mat(0, 0)) || e != api.ErrOver {
			t.Errorf("NearMat: %v, %d", m, e)
		}
	}
}

// MaxBits bits above and below, and one more.
func TestTooGreat(t *testing.T) {
	half := power(api.MaxBits/2, 0)
	last := power(api.MaxBits-1, 0)
	isFrac(t, "longest - 1", power(api.MaxBits, -2))(rational.Add(longest(), "-1"))
	no[api.Frac](t, "longest + 1", api.ErrLong)(rational.Add(longest(), "1"))
	no[api.Frac](t, "-longest - 1", api.ErrLong)(rational.Sub("-"+longest(), "1"))
	isFrac(t, "longest + 0", longest())(rational.Add(longest(), "0"))
	no[api.Frac](t, "longest + 1/2", api.ErrLong)(rational.Add(longest(), "1/2"))
	isFrac(t, "last * 2 less", last)(rational.Mul(half, power(api.MaxBits/2-1, 0)))
	no[api.Frac](t, "half * half", api.ErrLong)(rational.Mul(half, half))
	no[api.Frac](t, "half * half below", api.ErrLong)(rational.Mul("1/"+half, "1/"+half))
	isFrac(t, "last below", "1/"+last)(rational.Mul("1/"+half, "1/"+power(api.MaxBits/2-1, 0)))
	no[api.Frac](t, "half / (1 / half)", api.ErrLong)(rational.Div(half, "1/"+half))
	no[api.Frac](t, "(1 / half) / half", api.ErrLong)(rational.Div("1/"+half, "-"+half))
	isFrac(t, "half / half", "-1")(rational.Div(half, "-"+half))
	no[api.Frac](t, "1 / last / 3", api.ErrLong)(rational.Div("1/"+last, "3"))
	isFrac(t, "1 / last / (1 / 3)", "3/"+last)(rational.Div("1/"+last, "1/3"))

	// What lies between is greater, and what is told isn't.
	isFrac(t, "longest times its inverse", "1")(rational.Mul(longest()+"/"+last, last+"/"+longest()))
	isFrac(t, "longest by longest", "-1/2")(rational.Div(longest()+"/"+last, "-"+longest()+"/"+power(api.MaxBits-2, 0)))
	isFrac(t, "half", "1/2")(rational.Sub(power(api.MaxBits-1, 1)+"/"+last, power(api.MaxBits-2, 1)+"/"+last))
	is(t, "Compare", -1)(rational.Compare(power(api.MaxBits, -2)+"/"+longest(), longest()+"/"+power(api.MaxBits, -2)))
	is(t, "Compare", 1)(rational.Compare(power(api.MaxBits, -2)+"/"+longest(), power(api.MaxBits, -3)+"/"+power(api.MaxBits, -2)))
	is(t, "Compare", 0)(rational.Compare("-"+longest(), "-"+longest()))
}

// The same of matrices: each fraction that is told is asked, and none that lies between.
func TestTooGreatMatrices(t *testing.T) {
	long, more, less := power(40000, 0), power(40000, 1), power(40000, -1)
	one := frac(1, 1, "1")
	isMat(t, "MulMat", frac(1, 1, "5"))(rational.MulMat(frac(1, 3, power(65535, 0), "-"+power(65535, 0), "5"), frac(3, 1, power(65535, 0), power(65535, 0), "1")))
	isMat(t, "MulMat", frac(1, 1, "1"))(rational.MulMat(frac(1, 3, power(65535, 0), power(65535, 0), "-1"), frac(3, 1, "1", "1", longest())))
	noMat(t, "MulMat", api.ErrLong)(rational.MulMat(frac(1, 2, power(65535, 0), power(65535, 0)), frac(2, 1, "1", "1")))
	isMat(t, "AddMat", frac(1, 2, "1", longest()))(rational.AddMat(frac(1, 2, "1", power(api.MaxBits, -2)), frac(1, 2, "0", "1")))
	noMat(t, "AddMat", api.ErrLong)(rational.AddMat(frac(1, 2, "1", longest()), frac(1, 2, "0", "1")))
	noMat(t, "SubMat", api.ErrLong)(rational.SubMat(frac(2, 1, "-"+longest(), "1"), frac(2, 1, "1", "1")))
	noMat(t, "Scale", api.ErrLong)(rational.Scale(long, frac(1, 3, "0", "1/"+long, long)))
	isMat(t, "Scale", frac(1, 3, "0", "1", long))(rational.Scale(long, frac(1, 3, "0", "1/"+long, "1")))

	m := frac(2, 2, long, less, more, long) // of determinant 1
	isFrac(t, "Det", "1")(rational.Det(m))
	isMat(t, "Inverse", frac(2, 2, long, "-"+less, "-"+more, long))(rational.Inverse(m))
	isMat(t, "Solve", frac(2, 1, "1", "0"))(rational.Solve(m, frac(2, 1, long, more)))
	no[api.Frac](t, "Det", api.ErrLong)(rational.Det(frac(2, 2, long, "0", "0", long)))
	no[api.Frac](t, "Det", api.ErrLong)(rational.Det(frac(2, 2, "1/"+long, "0", "0", "-1/"+long)))
	isFrac(t, "Det", "0")(rational.Det(frac(2, 2, long, long, long, long)))
	isFrac(t, "Det", "-1")(rational.Det(frac(2, 2, "0", "1/"+long, long, "0")))
	noMat(t, "Solve", api.ErrLong)(rational.Solve(frac(1, 1, "1/"+long), frac(1, 1, long)))
	noMat(t, "Solve", api.ErrLong)(rational.Solve(diagonal("1", "1/"+long), frac(2, 2, "1", "2", "3", long)))
	noMat(t, "Inverse", api.ErrLong)(rational.Inverse(frac(2, 2, "1", long, "0", "1/"+long)))
	is(t, "Rank", 2)(rational.Rank(m))
	is(t, "Rank", 1)(rational.Rank(frac(2, 2, long, "1", "1", "1/"+long)))
	is(t, "Sign", api.SignPositive)(rational.Sign(diagonal(long, long, long)))
	is(t, "Sign", api.SignOther)(rational.Sign(frac(2, 2, more, long, long, less)))
	is(t, "Sign", api.SignSemi)(rational.Sign(frac(2, 2, long, "1", "1", "1/"+long)))
	is(t, "AtMost", false)(rational.AtMost(frac(1, 1, longest()), frac(1, 1, "-"+longest())))
	is(t, "AtMost", true)(rational.AtMost(frac(1, 1, "-"+longest()), frac(1, 1, longest())))
	is(t, "AtMost", true)(rational.AtMost(frac(1, 1, "1/"+longest()), frac(1, 1, "1/"+power(api.MaxBits, -2))))
	noMat(t, "Turn", api.ErrFrac)(rational.Turn(frac(1, 1, tooLong())))
	isMat(t, "Turn", frac(2, 1, longest(), "1/"+longest()))(rational.Turn(frac(1, 2, longest(), "1/"+longest())))
	isMat(t, "MulMat", one)(rational.MulMat(frac(1, 1, longest()), frac(1, 1, "1/"+longest())))
}

// Matrices without rows or without columns.
func TestNothing(t *testing.T) {
	for _, n := range []int{0, 1, 5, 12} {
		wide, tall := frac(0, n), frac(n, 0)
		isMat(t, "Turn", tall)(rational.Turn(wide))
		isMat(t, "Turn", wide)(rational.Turn(tall))
		isMat(t, "OfMat", wide)(rational.OfMat(mat(0, n)))
		isMat(t, "AddMat", tall)(rational.AddMat(tall, tall))
		isMat(t, "SubMat", wide)(rational.SubMat(wide, wide))
		isMat(t, "Scale", wide)(rational.Scale("1/2", wide))
		isMat(t, "MulMat", grid(n, n, func(_, _ int) api.Frac { return "0" }))(rational.MulMat(tall, wide))
		isMat(t, "MulMat", frac(0, 0))(rational.MulMat(wide, tall))
		isMat(t, "Solve", wide)(rational.Solve(frac(0, 0), wide))
		isMat(t, "Solve", tall)(rational.Solve(eye(n), tall))
		is(t, "Rank", 0)(rational.Rank(wide))
		is(t, "Rank", 0)(rational.Rank(tall))
		if m, e := rational.NearMat(tall); !sameMat(m, mat(n, 0)) || e != api.OK {
			t.Errorf("NearMat: %v, %d", m, e)
		}
		isMat(t, "Unit", eye(n))(rational.Unit(n))
	}
	isMat(t, "Inverse", frac(0, 0))(rational.Inverse(frac(0, 0)))
	isFrac(t, "Det", "1")(rational.Det(frac(0, 0)))
	is(t, "Sign", api.SignPositive)(rational.Sign(frac(0, 0)))
	is(t, "SignMat", api.SignPositive)(rational.SignMat(mat(0, 0)))
	is(t, "AtMost", true)(rational.AtMost(frac(0, 0), frac(0, 0)))
	is(t, "AtMostMat", true)(rational.AtMostMat(mat(0, 0), mat(0, 0)))
	noMat(t, "Solve", api.ErrSingular)(rational.Solve(frac(1, 1, "0"), frac(1, 0)))
}

// Elimination meets noughts on the diagonal, and rows and columns without a pivot.
func TestPivots(t *testing.T) {
	for _, c := range []struct {
		m       api.FracMat
		rank    int
		det     api.Frac
		inverse api.FracMat
	}{
		{frac(2, 2, "0", "1", "1", "0"), 2, "-1", frac(2, 2, "0", "1", "1", "0")},
		{frac(3, 3, "0", "0", "2", "1", "0", "0", "0", "3", "0"), 3, "6", frac(3, 3, "0", "1", "0", "0", "0", "1/3", "1/2", "0", "0")},
		{frac(3, 3, "0", "0", "1", "0", "1", "0", "1", "0", "0"), 3, "-1", frac(3, 3, "0", "0", "1", "0", "1", "0", "1", "0", "0")},
		{frac(3, 3, "1", "1", "1", "1", "1", "2", "1", "2", "1"), 3, "-1", frac(3, 3, "3", "-1", "-1", "-1", "0", "1", "-1", "1", "0")},
		{frac(2, 2, "1/2", "1/3", "1/4", "1/5"), 2, "1/60", frac(2, 2, "12", "-20", "-15", "30")},
		{frac(2, 2, "-1/2", "0", "0", "-3"), 2, "3/2", frac(2, 2, "-2", "0", "0", "-1/3")},
		{frac(2, 2, "0", "0", "0", "0"), 0, "0", frac(0, 0)},
		{frac(2, 2, "0", "1", "0", "2"), 1, "0", frac(0, 0)},
		{frac(2, 2, "0", "0", "3", "4"), 1, "0", frac(0, 0)},
		{frac(3, 3, "1", "2", "3", "2", "4", "6", "1", "1", "1"), 2, "0", frac(0, 0)},
		{frac(3, 3, "0", "1", "2", "0", "3", "4", "0", "5", "6"), 2, "0", frac(0, 0)},
		{frac(3, 3, "1", "2", "3", "4", "5", "6", "7", "8", "9"), 2, "0", frac(0, 0)},
	} {
		is(t, fmt.Sprint("Rank", c.m), c.rank)(rational.Rank(c.m))
		isFrac(t, fmt.Sprint("Det", c.m), c.det)(rational.Det(c.m))
		if c.det == "0" {
			noMat(t, fmt.Sprint("Inverse", c.m), api.ErrSingular)(rational.Inverse(c.m))
			noMat(t, fmt.Sprint("Solve", c.m), api.ErrSingular)(rational.Solve(c.m, eye(c.m.Rows)))
			continue
		}
		isMat(t, fmt.Sprint("Inverse", c.m), c.inverse)(rational.Inverse(c.m))
		isMat(t, fmt.Sprint("Solve", c.m), c.inverse)(rational.Solve(c.m, eye(c.m.Rows)))
	}
	for _, c := range []struct {
		m    api.FracMat
		rank int
	}{
		{frac(1, 3, "0", "0", "1/7"), 1}, {frac(3, 1, "0", "0", "-2"), 1}, {frac(2, 3, "1", "2", "3", "2", "4", "7"), 2}, {frac(2, 3, "1", "2", "3", "1/2", "1", "3/2"), 1}, {frac(3, 2, "0", "1", "0", "2", "0", "3"), 1},
		{frac(3, 4, "0", "0", "1", "2", "0", "0", "2", "4", "0", "0", "0", "5"), 2}, {frac(2, 4, "0", "0", "0", "0", "0", "0", "0", "9"), 1}, {eye(12), 12}, {grid(12, 12, func(_, _ int) api.Frac { return "1/3" }), 1},
	} {
		is(t, fmt.Sprint("Rank", c.m), c.rank)(rational.Rank(c.m))
	}
}

func TestSigns(t *testing.T) {
	for _, c := range []struct {
		m    api.FracMat
		sign api.Sign
	}{
		{frac(1, 1, "1/1000000"), 3}, {frac(1, 1, "0"), 2}, {frac(1, 1, "-1/1000000"), 1},
		{diagonal("0", "1", "2"), 2}, {diagonal("1", "0", "2"), 2}, {diagonal("1", "2", "0"), 2}, {diagonal("0", "0", "-1"), 1}, {diagonal("1", "2", "-1"), 1}, {diagonal("-1", "2", "1"), 1}, {diagonal("0", "-1", "1"), 1},
		{frac(3, 3, "0", "0", "0", "0", "1", "2", "0", "2", "4"), 2}, {frac(3, 3, "0", "0", "0", "0", "1", "2", "0", "2", "3"), 1}, {frac(3, 3, "0", "0", "0", "0", "1", "2", "0", "2", "5"), 2},
		{frac(3, 3, "0", "0", "1", "0", "1", "0", "1", "0", "1"), 1}, {frac(3, 3, "1", "0", "0", "0", "0", "1", "0", "1", "1"), 1}, {frac(3, 3, "1", "0", "1", "0", "0", "0", "1", "0", "1"), 2},
		{frac(3, 3, "1", "1", "0", "1", "1", "1", "0", "1", "5"), 1}, {frac(3, 3, "1", "1", "1", "1", "1", "1", "1", "1", "1"), 2}, {frac(3, 3, "1", "1", "1", "1", "1", "1", "1", "1", "2"), 2},
		{frac(3, 3, "0", "0", "-1", "0", "1", "0", "-1", "0", "9"), 1}, {frac(2, 2, "1", "-1", "-1", "1"), 2}, {frac(2, 2, "1/2", "1/3", "1/3", "2/9"), 2}, {frac(2, 2, "1/2", "1/3", "1/3", "1/4"), 3}, {frac(2, 2, "1/2", "1/3", "1/3", "1/5"), 1},
		{frac(2, 2, "-2", "1", "1", "-2"), 1}, {frac(2, 2, "-1", "0", "0", "0"), 1}, {eye(12), 3}, {grid(12, 12, func(_, _ int) api.Frac { return "0" }), 2},
	} {
		is(t, fmt.Sprint("Sign", c.m), c.sign)(rational.Sign(c.m))
	}
	for _, c := range []struct {
		m    api.Mat
		sign api.Sign
	}{
		{mat(2, 2, 1, 1, 1, 1), 2}, {mat(2, 2, 1, 1, 1, 1+0x1p-52), 3}, {mat(2, 2, 1, 1, 1, 1-0x1p-53), 1}, {mat(2, 2, 0, 0, minus, 0), 2}, {mat(2, 2, 1, minus, 0, 1), 3}, {mat(2, 2, minus, 0, minus, minus), 2}, {mat(1, 1, minus), 2},
		{mat(1, 1, least), 3}, {mat(1, 1, -least), 1}, {mat(2, 2, most, 1, 1, least), 1}, {mat(2, 2, most, 0, 0, least), 3}, {mat(2, 2, 0x1p-1000, 0x1p-1000, 0x1p-1000, 0x1p-1000+0x1p-1052), 3}, {mat(2, 2, most, most, most, most), 2},
		{mat(2, 2, 0x1p1000, 1, 1, 0x1p-1000), 2}, {mat(2, 2, 0x1p1000, 1, 1, 0x1p-1000+0x1p-1052), 3}, {mat(2, 2, 0, 1, 1, 1), 1},
	} {
		is(t, fmt.Sprint("SignMat", c.m), c.sign)(rational.SignMat(c.m))
	}
	for _, m := range []api.Mat{mat(2, 2, 1, 0, least, 1), mat(2, 2, 1, 1, 1+0x1p-52, 1), mat(2, 2, -1, 2, -2, -1), mat(3, 3, 1, 0, 0, 0, 1, 0, 1, 0, 1)} {
		no[api.Sign](t, fmt.Sprint("SignMat", m), api.ErrFracSym)(rational.SignMat(m))
		no[bool](t, fmt.Sprint("AtMostMat", m), api.ErrFracSym)(rational.AtMostMat(m, m))
	}
}

func TestAtMost(t *testing.T) {
	for _, c := range []struct {
		a, b api.FracMat
		is   bool
	}{
		{frac(1, 1, "1/3"), frac(1, 1, "1/3"), true}, {frac(1, 1, "1/3"), frac(1, 1, "1/2"), true}, {frac(1, 1, "1/2"), frac(1, 1, "1/3"), false}, {diagonal("1", "2"), diagonal("2", "1"), false}, {diagonal("-3", "-2"), diagonal("-3", "-1"), true},
		{frac(2, 2, "0", "1", "1", "0"), eye(2), true}, {frac(2, 2, "0", "2", "2", "0"), eye(2), false}, {eye(2), frac(2, 2, "1", "1", "1", "1"), false}, {frac(2, 2, "0", "0", "0", "0"), frac(2, 2, "1", "1", "1", "1"), true},
	} {
		is(t, fmt.Sprint("AtMost", c.a, c.b), c.is)(rational.AtMost(c.a, c.b))
	}
	for _, c := range []struct {
		a, b api.Mat
		is   bool
	}{
		{mat(1, 1, 1), mat(1, 1, 1+0x1p-52), true}, {mat(1, 1, 1+0x1p-52), mat(1, 1, 1), false}, {mat(1, 1, minus), mat(1, 1, 0), true}, {mat(1, 1, 0), mat(1, 1, minus), true}, {mat(1, 1, -most), mat(1, 1, most), true}, {mat(1, 1, least), mat(1, 1, 0), false},
		{mat(2, 2, 1, 0, minus, 1), mat(2, 2, 2, 1, 1, 2), true}, {mat(2, 2, 1, 0, 0, 1+0x1p-52), mat(2, 2, 2, 1, 1, 2), false},
	} {
		is(t, fmt.Sprint("AtMostMat", c.a, c.b), c.is)(rational.AtMostMat(c.a, c.b))
	}
}
