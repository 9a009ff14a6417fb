package interval_test

import (
	"math"
	"math/rand"
	"testing"

	"binnacle/api"
	"binnacle/interval"
)

// made is an interval beside its error.
type made struct {
	a   api.Interval
	err api.Errno
}

func told(a api.Interval, err api.Errno) made { return made{a, err} }

func (m made) is(o made) bool { return same(m.a, o.a) && m.err == o.err }

// refused tells that an error stands beside the zero value.
func (m made) refused(err api.Errno) bool { return m.is(made{api.Interval{}, err}) }

// P6.1
func TestNew(t *testing.T) {
	for _, a := range append(intervals(), none()...) {
		want := made{plain(a), api.OK}
		if !holds(a) {
			want = made{api.Interval{}, api.ErrEnds}
		}
		if got := told(interval.New(a.Lo, a.Hi)); !got.is(want) {
			t.Errorf("New(%x, %x): %x", a.Lo, a.Hi, got)
		}
	}
	if !told(interval.New(2, 1)).refused(api.ErrEnds) || !told(interval.New(inf, -inf)).refused(api.ErrEnds) || !told(interval.New(inf, inf)).refused(api.ErrEnds) || !told(interval.New(-inf, -inf)).refused(api.ErrEnds) || !told(interval.New(theNaN, 1)).refused(api.ErrEnds) || !told(interval.New(1, theNaN)).refused(api.ErrEnds) {
		t.Error("what is no interval's is taken")
	}
	if !told(interval.New(minus, minus)).is(made{point(0), api.OK}) || !told(interval.New(-inf, inf)).is(made{all, api.OK}) || !told(interval.New(0, minus)).is(made{point(0), api.OK}) || !told(interval.New(-inf, -most)).is(made{iv(-inf, -most), api.OK}) {
		t.Error("an interval's ends are not taken as they are")
	}
}

// P6.1
func TestIs(t *testing.T) {
	for _, a := range intervals() {
		if !interval.Is(a) {
			t.Errorf("Is(%x) is false", a)
		}
	}
	for _, a := range none() {
		if interval.Is(a) {
			t.Errorf("Is(%x) is true", a)
		}
	}
	if !interval.Is(empty) || !interval.Is(all) || !interval.Is(iv(minus, 0)) || !interval.Is(iv(0, minus)) || !interval.Is(api.Interval{}) {
		t.Error("Is is false of an interval")
	}
}

// P6.1
func TestEmptyAndAll(t *testing.T) {
	if !same(interval.Empty(), empty) || !same(interval.All(), all) {
		t.Errorf("Empty %x, All %x", interval.Empty(), interval.All())
	}
}

// P6.1
func TestPoint(t *testing.T) {
	for _, x := range ends() {
		want := made{plain(point(x)), api.OK}
		if math.IsInf(x, 0) {
			want = made{api.Interval{}, api.ErrEnds}
		}
		if got := told(interval.Point(x)); !got.is(want) {
			t.Errorf("Point(%x): %x", x, got)
		}
	}
	for _, a := range none() {
		if math.IsNaN(a.Lo) && !told(interval.Point(a.Lo)).refused(api.ErrEnds) {
			t.Errorf("Point(%x) is not refused", a.Lo)
		}
	}
}

// raw is any bits whatever at either end, or ends that matter, in any order.
func raw(r *rand.Rand) api.Interval {
	switch r.Intn(4) {
	case 0:
		return iv(math.Float64frombits(r.Uint64()), math.Float64frombits(r.Uint64()))
	case 1:
		l := none()
		return l[r.Intn(len(l))]
	case 2:
		l := append(ends(), theNaN)
		return iv(l[r.Intn(len(l))], l[r.Intn(len(l))])
	}
	return chance(r)
}

// one are the calls that make an interval of one, two those that make it of two.
func one() map[string]func(a api.Interval) api.Interval {
	out := map[string]func(a api.Interval) api.Interval{"Neg": interval.Neg, "Abs": interval.Abs, "Sqrt": interval.Sqrt}
	for n := range api.MaxPow + 1 {
		out["Pow "+string(rune('a'+n))] = func(a api.Interval) api.Interval {
			p, _ := interval.Pow(a, n)
			return p
		}
	}
	return out
}

func two() map[string]func(a, b api.Interval) api.Interval {
	return map[string]func(a, b api.Interval) api.Interval{"Hull": interval.Hull, "Meet": interval.Meet, "Add": interval.Add, "Sub": interval.Sub, "Mul": interval.Mul, "Div": interval.Div}
}

// Of whatever comes in, what is answered is an interval or the empty one, its noughts +0.
func TestAnswersAreIntervals(t *testing.T) {
	wrong := 0
	r := rand.New(rand.NewSource(11))
	for range 20000 {
		a, b := raw(r), raw(r)
		for name, call := range one() {
			if got := call(a); !sound(got) {
				t.Errorf("%s(%x): %x", name, a, got)
				few(t, &wrong)
			}
		}
		for name, call := range two() {
			if got := call(a, b); !sound(got) {
				t.Errorf("%s(%x, %x): %x", name, a, b, got)
				few(t, &wrong)
			}
		}
		if got, _ := interval.Dot([]api.Interval{a, b}, []api.Interval{b, a}); !sound(got) {
			t.Errorf("Dot of %x, %x: %x", a, b, got)
			few(t, &wrong)
		}
	}
}

// What is neither an interval nor the empty one counts as the empty one, and a nought's sign for nothing, wherever it comes in.
func TestWhatCounts(t *testing.T) {
	wrong := 0
	bad := func(name string, a, b api.Interval) {
		t.Helper()
		t.Errorf("%s: %x, %x isn't taken for what it counts as", name, a, b)
		few(t, &wrong)
	}
	for _, p := range pairs() {
		a, b := p[0], p[1]
		c, d := plain(a), plain(b)
		if same(a, c) && same(b, d) {
			continue
		}
		for name, call := range one() {
			if !same(call(a), call(c)) || !same(call(b), call(d)) {
				bad(name, a, b)
			}
		}
		for name, call := range two() {
			if want := call(c, d); !same(call(a, d), want) || !same(call(c, b), want) || !same(call(a, b), want) {
				bad(name, a, b)
			}
		}
		for name, call := range map[string]func(a, b api.Interval) bool{"In": interval.In, "Meets": interval.Meets, "Below": interval.Below} {
			if want := call(c, d); call(a, d) != want || call(c, b) != want || call(a, b) != want {
				bad(name, a, b)
			}
		}
		for name, call := range map[string]func(a api.Interval) float64{"Mid": interval.Mid, "Radius": interval.Radius, "Width": interval.Width} {
			if !sameNumber(call(a), call(c)) || !sameNumber(call(b), call(d)) {
				bad(name, a, b)
			}
		}
		for _, x := range ends() {
			if interval.Has(a, x) != interval.Has(c, x) || interval.Has(b, x) != interval.Has(d, x) {
				bad("Has", a, b)
			}
		}
		got, _ := interval.Dot([]api.Interval{point(1), a}, []api.Interval{b, point(2)})
		want, _ := interval.Dot([]api.Interval{point(1), c}, []api.Interval{d, point(2)})
		if !same(got, want) {
			bad("Dot", a, b)
		}
	}
}
