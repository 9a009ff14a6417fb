package clock_test

import (
	"math/big"
	"math/rand"
	"testing"

	"binnacle/api"
	"binnacle/clock"
)

// chanceCount is a count, as often as not one by which c has a time.
func chanceCount(r *rand.Rand, c api.Clock) int64 {
	for {
		if n := anyNumber(r, c); within(whole(n), 50) {
			return n
		}
	}
}

// enough tells if a rule was asked too seldom to be held.
func enough(t *testing.T, asked, least int) {
	t.Helper()
	if asked < least {
		t.Errorf("asked %d times, not %d", asked, least)
	}
}

// P13.7: a greater count has no earlier time; by a rate of 1 or more it has a later one.
func TestTimeRises(t *testing.T) {
	r := rand.New(rand.NewSource(137))
	asked, fast, wrong := 0, 0, 0
	for range 100000 {
		c := chanceClock(r)
		n := chanceCount(r, c)
		m := chanceCount(r, c)
		if r.Intn(2) == 0 {
			m = n + 1 + r.Int63n(3)
		}
		early, e := clock.Time(c, min(n, m))
		late, f := clock.Time(c, max(n, m))
		if n == m || e != api.OK || f != api.OK {
			continue
		}
		asked++
		if c.Num >= c.Den {
			fast++
		}
		if early > late || c.Num >= c.Den && early == late {
			t.Errorf("%+v of %d and %d: %d, %d", c, n, m, early, late)
			few(t, &wrong)
		}
	}
	enough(t, asked, 20000)
	enough(t, fast, 10000)
}

// P13.8: there and back.
func TestThereAndBack(t *testing.T) {
	r := rand.New(rand.NewSource(138))
	asked, fewer, wrong := 0, 0, 0
	for range 100000 {
		c := chanceClock(r)
		n := chanceCount(r, c)
		at, e := clock.Time(c, n)
		if e != api.OK {
			continue
		}
		back, e := clock.Count(c, at)
		if e != api.OK {
			continue
		}
		asked++
		if back < n {
			fewer++
		}
		again, e := clock.Time(c, back)
		if back > n || again != at || e != api.OK {
			t.Errorf("%+v of %d: %d, back %d, again %d, error %d", c, n, at, back, again, e)
			few(t, &wrong)
		}
	}
	enough(t, asked, 20000)
	enough(t, fewer, 3000)
}

// P13.8: the count just below Count(t) has a time before t; if that is no time, it lies before all of them.
func TestJustBelow(t *testing.T) {
	r := rand.New(rand.NewSource(1381))
	asked, ahead, wrong := 0, 0, 0
	for range 100000 {
		c := chanceClock(r)
		at := chanceCount(r, c)
		n, e := clock.Count(c, at)
		if e != api.OK || n == -end {
			continue
		}
		asked++
		below, e := clock.Time(c, n-1)
		if e != api.OK {
			ahead++
		}
		if e == api.OK && below >= at || e != api.OK && exactTime(c, whole(n-1)).Cmp(whole(-end)) >= 0 {
			t.Errorf("%+v, Count of %d: %d; just below: %d, error %d", c, at, n, below, e)
			few(t, &wrong)
		}
	}
	enough(t, asked, 20000)
	enough(t, ahead, 1000)
}

// chanceStep is less than 2^31 either way, near that and near 0 among others.
func chanceStep(r *rand.Rand) int64 {
	switch r.Intn(4) {
	case 0:
		return sign(r) * (halfWay - 1 - r.Int63n(3))
	case 1:
		return r.Int63n(7) - 3
	default:
		return sign(r) * r.Int63n(halfWay)
	}
}

// P13.9: a chain of counts, each less than 2^31 from the one ahead, comes back out of their stamps.
func TestWrapping(t *testing.T) {
	r := rand.New(rand.NewSource(139))
	for range 300 {
		n := chanceCount(r, api.Clock{})
		got := n
		for range 300 {
			n = max(-end, min(n+chanceStep(r), end))
			next, e := clock.Unwrap(got, uint32(n))
			if next != n || e != api.OK {
				t.Fatalf("from %d to %d: %d, error %d", got, n, next, e)
			}
			got = next
		}
	}
}

// P13.10: a fit goes through the first and the last pair.
func TestFitGoesThrough(t *testing.T) {
	r := rand.New(rand.NewSource(1310))
	asked, wrong := 0, 0
	for range 30000 {
		l := anyPairs(r)
		c, _, e := clock.Fit(l)
		if e != api.OK {
			continue
		}
		asked++
		for _, p := range []api.Pair{l[0], l[len(l)-1]} {
			if at, e := clock.Time(c, p.Count); at != p.Time || e != api.OK {
				t.Errorf("%v: %+v, of %d: %d, error %d", l, c, p.Count, at, e)
				few(t, &wrong)
			}
		}
	}
	enough(t, asked, 10000)
}

// divided are pairs that c made by Time with counts that it divides.
func divided(r *rand.Rand, c api.Clock) []api.Pair {
	step := c.Den / new(big.Int).GCD(nil, nil, whole(c.Num), whole(c.Den)).Int64()
	var out []api.Pair
	k := sign(r) * r.Int63n(1<<r.Intn(20))
	for range 2 + r.Intn(10) {
		if at, e := clock.Time(c, k*step); e == api.OK {
			out = append(out, api.Pair{Count: k * step, Time: at})
		}
		k += logarithmic(r, 12)
	}
	return out
}

// P13.10: pairs that a clock made with counts that it divides have that clock's rate, and nothing is missed.
func TestFitFindsTheClock(t *testing.T) {
	r := rand.New(rand.NewSource(13101))
	asked, wrong := 0, 0
	for range 30000 {
		c := chanceClock(r)
		l := divided(r, c)
		if len(l) < 2 {
			continue
		}
		asked++
		got, miss, e := clock.Fit(l)
		want, _ := clockOf(rateOf(c))
		want.Offset = c.Offset
		if got != want || miss != 0 || e != api.OK {
			t.Errorf("%+v, %v: %+v, missing %d, error %d", c, l, got, miss, e)
			few(t, &wrong)
		}
	}
	enough(t, asked, 10000)
}

// P13.11: the time by Then is within d's rate, rounded up, of the time by both clocks one behind the other.
func TestThenIsNear(t *testing.T) {
	r := rand.New(rand.NewSource(1311))
	asked, off, wrong := 0, 0, 0
	for range 200000 {
		c, d := chanceClock(r), chanceClock(r)
		both, e := clock.Then(c, d)
		if e != api.OK {
			continue
		}
		n := chanceCount(r, both)
		at, e := clock.Time(both, n)
		middle, f := clock.Time(c, n)
		want, g := clock.Time(d, middle)
		if e != api.OK || f != api.OK || g != api.OK {
			continue
		}
		asked++
		if at != want {
			off++
		}
		if limit := (d.Num + d.Den - 1) / d.Den; at-want > limit || want-at > limit {
			t.Errorf("%+v, %+v, of %d: %d, not %d, further off than %d", c, d, n, at, want, limit)
			few(t, &wrong)
		}
	}
	enough(t, asked, 20000)
	enough(t, off, 2000)
}
