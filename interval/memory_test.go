package interval_test

import (
	"math"
	"math/rand"
	"slices"
	"testing"

	"binnacle/api"
	"binnacle/interval"
)

// roomy is a copy of a list with spare room that isn't empty.
func roomy(l []api.Interval) []api.Interval {
	out := append(slices.Clone(l), iv(11, 22), iv(33, 44))
	return out[:len(l)]
}

// whole is all of a list, its spare room too.
func whole(l []api.Interval) []api.Interval { return l[:cap(l)] }

func sameLists(a, b []api.Interval) bool { return slices.EqualFunc(a, b, same) }

// P2: Dot changes nothing that it is given, its spare room neither, and keeps nothing of it.
func TestMemory(t *testing.T) {
	all := append(lists(), [2][]api.Interval{{point(1)}, nil}, [2][]api.Interval{nil, {iv(2, 1)}})
	for _, l := range all {
		a, b := roomy(l[0]), roomy(l[1])
		beforeA, beforeB := slices.Clone(whole(a)), slices.Clone(whole(b))
		first := told(interval.Dot(a, b))
		if !sameLists(whole(a), beforeA) || !sameLists(whole(b), beforeB) {
			t.Errorf("Dot(%x, %x) changed what it was given", l[0], l[1])
		}
		for _, used := range [][]api.Interval{whole(a), whole(b)} {
			for i := range used {
				used[i] = iv(-77, 77)
			}
		}
		if again := told(interval.Dot(roomy(l[0]), roomy(l[1]))); !again.is(first) {
			t.Errorf("Dot(%x, %x): %x, then %x", l[0], l[1], first, again)
		}
	}
}

// Two lists that lie in one memory, the one in the other's spare room.
func TestListsInOneMemory(t *testing.T) {
	room := []api.Interval{point(1), iv(-1, 2), point(3), iv(4, 5)}
	before := slices.Clone(room)
	if got := told(interval.Dot(room[:2], room[2:])); !got.is(made{iv(-2, 13), api.OK}) || !sameLists(room, before) {
		t.Errorf("Dot: %x; left %x", got, room)
	}
	if got := told(interval.Dot(room[:3], room[:3])); !got.is(made{iv(8, 14), api.OK}) || !sameLists(room, before) {
		t.Errorf("Dot: %x; left %x", got, room)
	}
}

// P3: nil and empty lists are the same.
func TestNilIsEmpty(t *testing.T) {
	for _, l := range [][2][]api.Interval{{nil, nil}, {nil, {}}, {{}, nil}, {{}, {}}, {make([]api.Interval, 0, 5), nil}} {
		if got := told(interval.Dot(l[0], l[1])); !got.is(made{point(0), api.OK}) {
			t.Errorf("Dot of nothing: %x", got)
		}
	}
	for _, nothing := range [][]api.Interval{nil, {}} {
		if !told(interval.Dot(nothing, []api.Interval{all})).refused(api.ErrShape) || !told(interval.Dot([]api.Interval{all}, nothing)).refused(api.ErrShape) {
			t.Error("Dot of nothing and something isn't refused")
		}
	}
}

// answers is what all calls say of two intervals, a number and a power.
func answers(a, b api.Interval, x float64, n int) []uint64 {
	var out []uint64
	add := func(l ...float64) {
		for _, y := range l {
			out = append(out, math.Float64bits(y))
		}
	}
	mark := func(yes bool) {
		if out = append(out, 0); yes {
			out[len(out)-1] = 1
		}
	}
	one, errOne := interval.New(x, a.Hi)
	spot, errSpot := interval.Point(x)
	pow, errPow := interval.Pow(a, n)
	dot, errDot := interval.Dot([]api.Interval{a, b}, []api.Interval{b, b})
	for _, c := range []api.Interval{one, spot, pow, dot, interval.Empty(), interval.All(), interval.Hull(a, b), interval.Meet(a, b), interval.Neg(a), interval.Abs(a), interval.Add(a, b), interval.Sub(a, b), interval.Mul(a, b), interval.Div(a, b), interval.Sqrt(a)} {
		add(c.Lo, c.Hi)
	}
	for _, err := range []api.Errno{errOne, errSpot, errPow, errDot} {
		out = append(out, uint64(err))
	}
	add(interval.Mid(a), interval.Radius(a), interval.Width(a))
	for _, yes := range []bool{interval.Is(a), interval.Has(a, x), interval.In(a, b), interval.Meets(a, b), interval.Below(a, b)} {
		mark(yes)
	}
	return out
}

// P1, P2: whatever comes in, every call ends, and says the same when it is asked again, in another order.
func TestAnythingComesIn(t *testing.T) {
	type question struct {
		a, b api.Interval
		x    float64
		n    int
	}
	r := rand.New(rand.NewSource(41))
	var asked []question
	var said [][]uint64
	for range 20000 {
		q := question{raw(r), raw(r), math.Float64frombits(r.Uint64()), r.Intn(24) - 4}
		if r.Intn(20) == 0 {
			q.n = int(r.Uint64())
		}
		asked = append(asked, q)
		said = append(said, answers(q.a, q.b, q.x, q.n))
	}
	for i, q := range slices.Backward(asked) {
		if !slices.Equal(answers(q.a, q.b, q.x, q.n), said[i]) {
			t.Fatalf("asked again, something else is said of %x", q)
		}
	}
}
