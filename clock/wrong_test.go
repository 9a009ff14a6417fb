package clock_test

import (
	"math/rand"
	"slices"
	"testing"

	"binnacle/api"
	"binnacle/clock"
)

// spoilt are clocks that may not be, each for one reason.
func spoilt() []api.Clock {
	return []api.Clock{
		clockIs(0, 0, 1), clockIs(0, -1, 1), clockIs(0, most+1, 1),
		clockIs(0, 1, 0), clockIs(0, 1, -1), clockIs(0, 1, most+1),
		clockIs(-end-1, 1, 1), clockIs(end+1, 1, 1), {},
	}
}

// A clock that may not be is refused ahead of all else, zero values beside it; of two clocks each is looked at.
func TestClocksThatMayNotBe(t *testing.T) {
	good := clockIs(0, 1, 1)
	no := fault(api.ErrClock)
	for _, bad := range spoilt() {
		for _, n := range []int64{0, end + 1, -end - 1} {
			hold(t,
				told{"Check", answer{err: clock.Check(bad)}, no},
				told{"Time", says(clock.Time(bad, n)), no},
				told{"Count", says(clock.Count(bad, n)), no},
				told{"Apart, c", askApart(bad, good, n), no},
				told{"Apart, both", askApart(bad, bad, n), no},
				told{"Drift, c", says(clock.Drift(bad, good)), no},
				told{"Drift, d", says(clock.Drift(good, bad)), no},
				told{"Drift, both", says(clock.Drift(bad, bad)), no},
				told{"Then, c", askThen(bad, good), no},
				told{"Then, d", askThen(good, bad), no},
				told{"Then, both", askThen(bad, bad), no},
			)
		}
	}
}

// Two faults at once, in either order.
func TestTwoFaults(t *testing.T) {
	good, far := clockIs(0, 1, 1), clockIs(end, 1, 1)
	no, beyond, pairs := fault(api.ErrClock), fault(api.ErrRange), fault(api.ErrPairs)
	for _, bad := range spoilt() {
		hold(t,
			told{"Apart: d may not be", askApart(good, bad, 0), no},
			told{"Apart: no count, d may not be", askApart(good, bad, end+1), beyond},
			told{"Apart: c's time is none, d may not be", askApart(far, bad, 1), beyond},
			told{"Apart: c may not be, d's time is none", askApart(bad, far, 1), no},
			told{"Then: c may not be, d's rate is the greatest", askThen(bad, clockIs(end, most, 1)), no},
			told{"Then: c's rate is the greatest, d may not be", askThen(clockIs(end, most, 1), bad), no},
		)
	}
	hold(t,
		told{"Apart: d's time is none", askApart(good, far, 1), beyond},
		told{"Apart: c's time is none", askApart(far, good, 1), beyond},
		told{"Drift beyond, and c may not be", askDrift(most+1, 1, 1, most), no},
		told{"Drift beyond, and d may not be", askDrift(most, 1, 1, most+1), no},
		told{"Then: a rate beyond and an Offset beyond", askThen(clockIs(end, most, 1), clockIs(0, 2, 1)), no},
		told{"Then: the least rate and an Offset beyond", askThen(clockIs(end, 1, most), clockIs(1, 1, 1)), beyond},
		told{"Then: a rate too small and an Offset beyond", askThen(clockIs(end, 1, most), clockIs(end, 1, 2)), no},
		told{"Fit: one pair with no count", askFit(end+1, 0), beyond},
		told{"Fit: one pair with no time", askFit(0, -end-1), beyond},
		told{"Fit: pairs that fall, then no count", askFit(1, 1, 0, 0, end+1, 2), beyond},
		told{"Fit: pairs that fall, then no time", askFit(1, 1, 0, 0, 2, end+1), beyond},
		told{"Fit: no count, then pairs that fall", askFit(-end-1, 1, 1, 1, 0, 0), beyond},
		told{"Fit: no time, then pairs that fall", askFit(1, -end-1, 1, 1, 0, 0), beyond},
		told{"Fit: a rate beyond, a fall in the midst", askFit(0, 0, 5, 5, 4, 6, 6, 3*end/4), pairs},
		told{"Fit: a rate beyond and an Offset beyond", askFit(end-1, 0, end, most+1), pairs},
		told{"Fit: pairs that fall and an Offset beyond", askFit(end-1, 0, end-1, 1, end, most), pairs},
	)
}

// More than MaxPairs pairs are refused, whatever they hold.
func TestTooManyPairs(t *testing.T) {
	for _, p := range []api.Pair{{}, {Count: end + 1}, {Time: -end - 1}, {Count: 5, Time: 5}} {
		for _, n := range []int{1025, 1026, 5000} {
			if got := saysFit(clock.Fit(slices.Repeat([]api.Pair{p}, n))); got != fault(api.ErrLong) {
				t.Errorf("%d times %v: %+v", n, p, got)
			}
		}
		want := api.ErrPairs
		if p.Count > end || p.Time < -end {
			want = api.ErrRange
		}
		if got := saysFit(clock.Fit(slices.Repeat([]api.Pair{p}, 1024))); got != fault(want) {
			t.Errorf("1024 times %v: %+v", p, got)
		}
	}
}

// A pair that is none is found wherever it stands.
func TestEachPair(t *testing.T) {
	for i := range 1024 {
		var l []api.Pair
		for k := range int64(1024) {
			l = append(l, api.Pair{Count: k, Time: k})
		}
		for _, n := range []int64{-end - 1, end + 1} {
			l[i] = api.Pair{Count: n, Time: int64(i)}
			if got := saysFit(clock.Fit(l)); got != fault(api.ErrRange) {
				t.Fatalf("count %d at %d: %+v", n, i, got)
			}
			l[i] = api.Pair{Count: int64(i), Time: n}
			if got := saysFit(clock.Fit(l)); got != fault(api.ErrRange) {
				t.Fatalf("time %d at %d: %+v", n, i, got)
			}
		}
		if i == 0 {
			continue
		}
		l[i] = api.Pair{Count: int64(i) - 1, Time: int64(i)}
		if got := saysFit(clock.Fit(l)); got != fault(api.ErrPairs) {
			t.Fatalf("a count that stays at %d: %+v", i, got)
		}
		l[i] = api.Pair{Count: int64(i), Time: int64(i) - 1}
		if got := saysFit(clock.Fit(l)); got != fault(api.ErrPairs) {
			t.Fatalf("a time that stays at %d: %+v", i, got)
		}
	}
}

// P1: any numbers at all: every call ends and says what the words say.
func TestAnythingComesIn(t *testing.T) {
	r := rand.New(rand.NewSource(1321))
	wrong := 0
	any := func() int64 { return int64(r.Uint64()) >> r.Intn(64) }
	for range 10000 {
		q := question{c: clockIs(any(), any(), any()), d: clockIs(any(), any(), any()), n: any(), stamp: r.Uint32()}
		for range r.Intn(4) {
			q.l = append(q.l, api.Pair{Count: any(), Time: any()})
		}
		for _, c := range calls() {
			held(t, &wrong, c, q)
		}
	}
}

// P2: pairs stay as they were, their spare room too, and what is written over them later changes no answer.
func TestPairsStay(t *testing.T) {
	r := rand.New(rand.NewSource(1322))
	for range 5000 {
		l := anyPairs(r)
		n := len(l)
		l = append(slices.Clip(l), api.Pair{Count: 77, Time: 78}, api.Pair{Count: 79, Time: 80})
		before := slices.Clone(l)
		got := saysFit(clock.Fit(l[:n]))
		if !slices.Equal(l, before) {
			t.Fatalf("%v became %v", before, l)
		}
		for i := range l {
			l[i] = api.Pair{Count: -1, Time: -1}
		}
		if again := saysFit(clock.Fit(before[:n])); again != got {
			t.Fatalf("%v: %+v, then %+v", before[:n], got, again)
		}
	}
}

// P3: nil and empty lists are the same.
func TestNilIsEmpty(t *testing.T) {
	hold(t,
		told{"nil", saysFit(clock.Fit(nil)), fault(api.ErrPairs)},
		told{"empty", saysFit(clock.Fit(make([]api.Pair, 0, 4))), fault(api.ErrPairs)},
	)
}
