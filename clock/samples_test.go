package clock_test

import (
	"math"
	"math/big"
	"math/rand"
	"slices"

	"binnacle/api"
)

const (
	end     = 1 << 50 // the last count and the last time
	most    = 1000000000
	round   = 1 << 32
	halfWay = 1 << 31
)

func clockIs(offset, num, den int64) api.Clock {
	return api.Clock{Offset: offset, Num: num, Den: den}
}

// pairsOf are pairs out of counts and times in turn.
func pairsOf(n ...int64) []api.Pair {
	var out []api.Pair
	for i := 0; i < len(n); i += 2 {
		out = append(out, api.Pair{Count: n[i], Time: n[i+1]})
	}
	return out
}

// limits are counts, times and offsets at the ends, beside them, far beyond them, and near 0.
func limits() []int64 {
	return []int64{math.MinInt64, -end - 1, -end, -end + 1, -1, 0, 1, end - 1, end, end + 1, math.MaxInt64}
}

// rates are numbers that may be, or may just not be, a Num or a Den.
func rates() []int64 {
	return []int64{math.MinInt64, -1, 0, 1, 2, most - 1, most, most + 1, math.MaxInt64}
}

// logarithmic is from 1 to 2^bits, small ones as often as great ones.
func logarithmic(r *rand.Rand, bits int) int64 {
	return 1 + r.Int63n(1<<r.Intn(bits+1))
}

func sign(r *rand.Rand) int64 { return int64(1 - 2*r.Intn(2)) }

func chanceRate(r *rand.Rand) int64 {
	switch r.Intn(4) {
	case 0:
		return 1 + r.Int63n(12)
	case 1:
		return most - r.Int63n(5)
	default:
		return min(logarithmic(r, 30), most)
	}
}

// chanceClock is one that may be.
func chanceClock(r *rand.Rand) api.Clock {
	c := clockIs(sign(r)*r.Int63n(30), chanceRate(r), chanceRate(r))
	switch r.Intn(5) {
	case 0: // as a sensor's clock drifts
		c.Den = 1000000
		c.Num = c.Den + sign(r)*r.Int63n(200)
	case 1: // both with something in common
		k := 1 + r.Int63n(1000)
		c.Num, c.Den = k*(1+r.Int63n(1000)), k*(1+r.Int63n(1000))
	}
	switch r.Intn(4) {
	case 0:
		c.Offset = sign(r) * (end - r.Int63n(3))
	case 1:
		c.Offset = sign(r) * min(logarithmic(r, 50), end)
	}
	return c
}

// anyClock is one that may be or, one time of eight, one that may not.
func anyClock(r *rand.Rand) api.Clock {
	c := chanceClock(r)
	if r.Intn(8) > 0 {
		return c
	}
	field := []*int64{&c.Offset, &c.Num, &c.Den}[r.Intn(3)]
	*field = limits()[r.Intn(len(limits()))]
	if r.Intn(3) == 0 {
		*field = int64(r.Uint64())
	}
	return c
}

// cut brings a whole number back among those of 64 bits.
func cut(n *big.Int) int64 {
	if !n.IsInt64() {
		return math.MaxInt64
	}
	return n.Int64()
}

// nearEnds is a number near that by which c's time or count meets an end.
func nearEnds(r *rand.Rand, c api.Clock) int64 {
	if !mayBe(c) {
		return 0
	}
	away := whole(r.Int63n(5) - 2)
	over := times(less(whole(sign(r)*end), whole(c.Offset)), whole(c.Den))
	if r.Intn(2) == 0 {
		return cut(sum(floorOf(fraction(over, whole(c.Num))), away))
	}
	return cut(sum(exactTime(c, whole(sign(r)*end)), away))
}

// anyNumber is a count or a time, or, now and then, just none.
func anyNumber(r *rand.Rand, c api.Clock) int64 {
	switch r.Intn(6) {
	case 0:
		return sign(r) * r.Int63n(60)
	case 1:
		return sign(r)*end + r.Int63n(7) - 3
	case 2:
		return limits()[r.Intn(len(limits()))]
	case 3:
		return nearEnds(r, c)
	case 4:
		return sign(r)*r.Int63n(end/round+1)*round + r.Int63n(7) - 3
	default:
		return sign(r) * logarithmic(r, 50)
	}
}

// anyStamp is often just half way round from n, or beside n.
func anyStamp(r *rand.Rand, n int64) uint32 {
	near := uint32(n) + uint32(r.Intn(7)) - 3
	switch r.Intn(3) {
	case 0:
		return near
	case 1:
		return near + halfWay
	default:
		return r.Uint32()
	}
}

// between are n numbers from low to high that rise strictly, the ends among them; the ends lie at least n apart.
func between(r *rand.Rand, low, high int64, n int) []int64 {
	out := []int64{low, high}
	for len(out) < n {
		x := low + r.Int63n(high-low)
		if !slices.Contains(out, x) {
			out = append(out, x)
		}
	}
	slices.Sort(out)
	return out
}

// chancePairs rise strictly; the first and the last of them lie on a rate that may be, so that most of them can be fitted.
func chancePairs(r *rand.Rand) []api.Pair {
	num, den := chanceRate(r), chanceRate(r)
	k := 1 + r.Int63n(1<<r.Intn(18))
	n := int(min(2+r.Int63n(12), k*num, k*den))
	if n < 2 {
		n = 2
	}
	count, time := sign(r)*logarithmic(r, 49), sign(r)*logarithmic(r, 49)
	counts, ticks := between(r, count, count+k*den, n), between(r, time, time+k*num, n)
	var out []api.Pair
	for i := range n {
		out = append(out, api.Pair{Count: counts[i], Time: ticks[i]})
	}
	return out
}

// anyPairs are pairs that may be fitted or not.
func anyPairs(r *rand.Rand) []api.Pair {
	l := chancePairs(r)
	i := r.Intn(len(l))
	switch r.Intn(12) {
	case 0:
		return l[:r.Intn(2)]
	case 1:
		l[i].Count = anyNumber(r, api.Clock{})
	case 2:
		l[i].Time = anyNumber(r, api.Clock{})
	case 3:
		l[i].Count, l[i].Time = l[0].Count, l[len(l)-1].Time
	case 4:
		return slices.Repeat(l, 1024/len(l)+r.Intn(2))
	}
	return l
}

func chanceQuestion(r *rand.Rand) question {
	q := question{c: anyClock(r), d: anyClock(r), l: anyPairs(r)}
	q.n = anyNumber(r, q.c)
	q.stamp = anyStamp(r, q.n)
	return q
}
