package clock_test

import (
	"math"
	"testing"

	"binnacle/api"
	"binnacle/clock"
)

// told is what a call answered and what it should have.
type told struct {
	what string
	got  answer
	want answer
}

func hold(t *testing.T, l ...told) {
	t.Helper()
	for _, x := range l {
		if x.got != x.want {
			t.Errorf("%s: %+v, not %+v", x.what, x.got, x.want)
		}
	}
}

func is(n int64) answer { return answer{n: n} }

func isClock(offset, num, den int64) answer { return answer{c: clockIs(offset, num, den)} }

func isFit(offset, num, den, miss int64) answer {
	return answer{c: clockIs(offset, num, den), n: miss}
}

func askCheck(offset, num, den int64) answer {
	return answer{err: clock.Check(clockIs(offset, num, den))}
}

func askTime(offset, num, den, count int64) answer {
	return says(clock.Time(clockIs(offset, num, den), count))
}

func askCount(offset, num, den, t int64) answer {
	return says(clock.Count(clockIs(offset, num, den), t))
}

func askUnwrap(last int64, stamp uint32) answer { return says(clock.Unwrap(last, stamp)) }

// askDrift asks of the rates a / b and c / d.
func askDrift(a, b, c, d int64) answer {
	return says(clock.Drift(clockIs(1, a, b), clockIs(-1, c, d)))
}

func askApart(c, d api.Clock, count int64) answer { return says(clock.Apart(c, d, count)) }

func askFit(n ...int64) answer { return saysFit(clock.Fit(pairsOf(n...))) }

func askThen(c, d api.Clock) answer { return saysClock(clock.Then(c, d)) }

// The chapter's examples, as they stand.
func TestExamples(t *testing.T) {
	hold(t,
		told{"Time of 5", askTime(100, 3, 2, 5), is(107)},
		told{"Time of -5", askTime(100, 3, 2, -5), is(92)},
		told{"Count of 107", askCount(100, 3, 2, 107), is(5)},
		told{"Count of 108", askCount(100, 3, 2, 108), is(6)},
		told{"Time, Num 0", askTime(0, 0, 1, 1), fault(api.ErrClock)},
		told{"Unwrap across the end", askUnwrap(4294967290, 5), is(4294967301)},
		told{"Unwrap half way", askUnwrap(0, 2147483648), is(2147483648)},
		told{"Unwrap below 0", askUnwrap(10, 4294967295), is(-1)},
		told{"Drift", askDrift(1000001, 1000000, 1, 1), is(1000)},
		told{"Fit", askFit(0, 100, 10, 120, 20, 141), isFit(100, 41, 20, 0)},
		told{"Then", askThen(clockIs(5, 2, 1), clockIs(7, 3, 1)), isClock(22, 6, 1)},
	)
}

// P13.1: which clocks may be.
func TestCheckEdges(t *testing.T) {
	no, yes := fault(api.ErrClock), answer{}
	hold(t,
		told{"least rate", askCheck(0, 1, most), yes},
		told{"greatest rate", askCheck(0, most, 1), yes},
		told{"not in lowest terms", askCheck(0, most, most), yes},
		told{"Num 0", askCheck(0, 0, 1), no},
		told{"Num below 0", askCheck(0, -1, 1), no},
		told{"Num too great", askCheck(0, most+1, 1), no},
		told{"Num least of all", askCheck(0, math.MinInt64, 1), no},
		told{"Den 0", askCheck(0, 1, 0), no},
		told{"Den below 0", askCheck(0, 1, -1), no},
		told{"Den too great", askCheck(0, 1, most+1), no},
		told{"Den greatest of all", askCheck(0, 1, math.MaxInt64), no},
		told{"both below 0", askCheck(0, -3, -2), no},
		told{"first Offset", askCheck(-end, 1, 1), yes},
		told{"last Offset", askCheck(end, 1, 1), yes},
		told{"ahead of the first Offset", askCheck(-end-1, 1, 1), no},
		told{"behind the last Offset", askCheck(end+1, 1, 1), no},
		told{"no clock at all", answer{err: clock.Check(api.Clock{})}, no},
	)
}

// P13.1: floors on both sides of 0, products of more than 64 bits, times and counts at the ends.
func TestTimeEdges(t *testing.T) {
	beyond := fault(api.ErrRange)
	hold(t,
		told{"0", askTime(-9, 7, 3, 0), is(-9)},
		told{"just below 0", askTime(0, 1, most, -1), is(-1)},
		told{"just above 0", askTime(0, 1, most, 1), is(0)},
		told{"a whole quotient below 0", askTime(0, 3, 2, -4), is(-6)},
		told{"a quotient below 0 that isn't whole", askTime(0, 3, 2, -3), is(-5)},
		told{"a product of 80 bits", askTime(0, most, most, end), is(end)},
		told{"a product of 80 bits below 0", askTime(0, most, most, -end), is(-end)},
		told{"a product of 80 bits, rounded down", askTime(0, most-1, most, end), is(end - 1125900)},
		told{"a product of 80 bits below 0, rounded down", askTime(0, most-1, most, -end), is(1125899 - end)},
		told{"a quotient of 80 bits", askTime(0, most, 1, end), beyond},
		told{"a quotient of 80 bits below 0", askTime(0, most, 1, -end), beyond},
		told{"a quotient of just 2^64", askTime(-end, 1<<14, 1, end), beyond},
		told{"a quotient of just -2^64", askTime(end, 1<<14, 1, -end), beyond},
		told{"a quotient of 2^63", askTime(-end, 1<<13, 1, end), beyond},
		told{"a quotient of -2^63", askTime(end, 1<<13, 1, -end), beyond},
		told{"a quotient of 2^62", askTime(-end, 1<<12, 1, end), beyond},
		told{"a quotient of 1/2 less than 2^64", askTime(0, 253921, 2, 145295143558111), beyond},
		told{"a quotient of 1/2 less than 2^64, below 0", askTime(0, 253921, 2, -145295143558111), beyond},
		told{"last count", askTime(0, 1, 1, end), is(end)},
		told{"first count", askTime(0, 1, 1, -end), is(-end)},
		told{"behind the last count", askTime(0, 1, 2, end+1), beyond},
		told{"ahead of the first count", askTime(0, 1, 2, -end-1), beyond},
		told{"behind the last time", askTime(1, 1, 1, end), beyond},
		told{"ahead of the first time", askTime(-1, 1, 1, -end), beyond},
		told{"the last time by an Offset", askTime(end, 1, 2, 1), is(end)},
		told{"behind the last time by an Offset", askTime(end, 1, 2, 2), beyond},
		told{"ahead of the first time by a floor", askTime(-end, 1, 2, -1), beyond},
		told{"back from beyond by an Offset", askTime(-end, 2, 1, end), is(end)},
		told{"back from beyond by an Offset, below 0", askTime(end, 2, 1, -end), is(-end)},
	)
}

// P13.2: the least n, by rates below 1 and above it; at the ends and just beyond them.
func TestCountEdges(t *testing.T) {
	beyond := fault(api.ErrRange)
	hold(t,
		told{"rate 1/2", askCount(0, 1, 2, 3), is(6)},
		told{"rate 1/2 below 0", askCount(0, 1, 2, -3), is(-6)},
		told{"rate 2", askCount(0, 2, 1, 3), is(2)},
		told{"rate 2 below 0", askCount(0, 2, 1, -3), is(-1)},
		told{"rate 2 below 0, whole", askCount(0, 2, 1, -4), is(-2)},
		told{"rate 2/3", askCount(10, 2, 3, 11), is(2)},
		told{"rate 2/3 below the Offset", askCount(10, 2, 3, 9), is(-1)},
		told{"rate most", askCount(0, most, 1, 1), is(1)},
		told{"rate most below 0", askCount(0, most, 1, -1), is(0)},
		told{"rate most at the end", askCount(0, most, 1, end), is(1125900)},
		told{"rate most at the first end", askCount(0, most, 1, -end), is(-1125899)},
		told{"the Offset itself", askCount(77, 3, 7, 77), is(0)},
		told{"last count", askCount(0, 1, 1, end), is(end)},
		told{"first count", askCount(0, 1, 1, -end), is(-end)},
		told{"just behind the last count", askCount(-1, 1, 1, end), beyond},
		told{"just ahead of the first count", askCount(1, 1, 1, -end), beyond},
		told{"last count by rate 1/2", askCount(0, 1, 2, end/2), is(end)},
		told{"behind the last count by rate 1/2", askCount(0, 1, 2, end/2+1), beyond},
		told{"first count by rate 1/2", askCount(0, 1, 2, -end/2), is(-end)},
		told{"ahead of the first count by rate 1/2", askCount(0, 1, 2, -end/2-1), beyond},
		told{"last count rounded up", askCount(-end, 2, 1, end-1), is(end)},
		told{"first count rounded up", askCount(end, 2, 1, -end+1), is(-end + 1)},
		told{"an n of 81 bits", askCount(-end, 1, most, end), beyond},
		told{"an n of 81 bits below 0", askCount(end, 1, most, -end), beyond},
		told{"last time", askCount(end, 1, 1, end), is(0)},
		told{"behind the last time", askCount(end, 1, 1, end+1), beyond},
		told{"ahead of the first time", askCount(-end, 1, 1, -end-1), beyond},
	)
}

// P13.3: half way round, below 0, across 2^32, at both ends.
func TestUnwrapEdges(t *testing.T) {
	beyond := fault(api.ErrRange)
	hold(t,
		told{"the same", askUnwrap(5, 5), is(5)},
		told{"one on", askUnwrap(5, 6), is(6)},
		told{"one back", askUnwrap(5, 4), is(4)},
		told{"just less than half way on", askUnwrap(5, halfWay+4), is(halfWay + 4)},
		told{"half way", askUnwrap(5, halfWay+5), is(halfWay + 5)},
		told{"just less than half way back", askUnwrap(5, halfWay+6), is(6 - halfWay)},
		told{"half way below 0", askUnwrap(-5, halfWay-5), is(halfWay - 5)},
		told{"just less than half way back below 0", askUnwrap(-5, halfWay-4), is(-halfWay - 4)},
		told{"below 0", askUnwrap(-5, round-7), is(-7)},
		told{"below -2^32", askUnwrap(-3*round-5, 2), is(-3*round + 2)},
		told{"up across 2^32", askUnwrap(round-1, 0), is(round)},
		told{"down across 2^32", askUnwrap(round, round-1), is(round - 1)},
		told{"up across 0", askUnwrap(-1, 0), is(0)},
		told{"down across 0", askUnwrap(0, round-1), is(-1)},
		told{"at the last count", askUnwrap(end, 0), is(end)},
		told{"to the last count", askUnwrap(end-9, 0), is(end)},
		told{"behind the last count", askUnwrap(end, 1), beyond},
		told{"behind the last count from ahead of it", askUnwrap(end-9, 1), beyond},
		told{"back from the last count", askUnwrap(end, halfWay+1), is(end - halfWay + 1)},
		told{"half way from the last count: the greater, which is none", askUnwrap(end, halfWay), beyond},
		told{"at the first count", askUnwrap(-end, 0), is(-end)},
		told{"to the first count", askUnwrap(9-end, 0), is(-end)},
		told{"ahead of the first count", askUnwrap(-end, round-1), beyond},
		told{"ahead of the first count from behind it", askUnwrap(9-end, round-1), beyond},
		told{"half way from the first count", askUnwrap(-end, halfWay), is(halfWay - end)},
		told{"more than half way from the first count", askUnwrap(-end, halfWay+1), beyond},
		told{"a last count that is none", askUnwrap(end+1, 0), beyond},
		told{"a first count that is none", askUnwrap(-end-1, 0), beyond},
	)
}

// P13.4: no drift lies below -10^9, so the lower limit can't be met.
func TestDriftEdges(t *testing.T) {
	beyond := fault(api.ErrRange)
	hold(t,
		told{"none", askDrift(7, 3, 7, 3), is(0)},
		told{"none, in other terms", askDrift(7, 3, 14, 6), is(0)},
		told{"twice as fast", askDrift(2, 1, 1, 1), is(most)},
		told{"half as fast", askDrift(1, 1, 2, 1), is(-most / 2)},
		told{"a floor above 0", askDrift(4, 3, 1, 1), is(333333333)},
		told{"a floor below 0", askDrift(2, 3, 1, 1), is(-333333334)},
		told{"just more than none", askDrift(most, most-1, 1, 1), is(1)},
		told{"just less than none", askDrift(most-1, most, 1, 1), is(-1)},
		told{"hardly more than none", askDrift(most, most-1, most-1, most-2), is(-1)},
		told{"hardly less than none", askDrift(most-1, most-2, most, most-1), is(0)},
		told{"slowest", askDrift(1, most, most, 1), is(-most)},
		told{"fastest", askDrift(most, 1, 1, most), beyond},
		told{"just below 2^62", askDrift(28278451, 179488, 1, 29271133), is(1<<62 - 1)},
		told{"2^62", askDrift(29184981, 202060, 1, 31928658), is(1 << 62)},
		told{"just above 2^62", askDrift(15491706, 53593, 1, 15953962), beyond},
		told{"2^62 and 2", askDrift(28706728, 201819, 1, 32421872), beyond},
		told{"between 2^63 and 2^64", askDrift(most, 1, 1, 15), beyond},
		told{"above 2^64", askDrift(most, 1, 1, 20), beyond},
	)
}

// P13.4: times at either end are further apart than a time may be.
func TestApartEdges(t *testing.T) {
	one := clockIs(0, 1, 1)
	hold(t,
		told{"ahead", askApart(clockIs(100, 3, 2), one, -5), is(97)},
		told{"behind", askApart(one, clockIs(100, 3, 2), -5), is(-97)},
		told{"one clock", askApart(clockIs(100, 3, 2), clockIs(100, 3, 2), 4), is(0)},
		told{"from end to end", askApart(clockIs(end, 1, 1), clockIs(-end, 1, 1), 0), is(2 * end)},
		told{"from end to end, back", askApart(clockIs(-end, 1, 1), clockIs(end, 1, 1), 0), is(-2 * end)},
	)
}

// P13.5: how many pairs, how they rise, which rates.
func TestFitEdges(t *testing.T) {
	no, unfit := fault(api.ErrPairs), fault(api.ErrClock)
	hold(t,
		told{"none", askFit(), no},
		told{"one", askFit(3, 4), no},
		told{"two", askFit(3, 4, 5, 9), isFit(-3, 5, 2, 0)},
		told{"below 0", askFit(-5, 4, -3, 9), isFit(17, 5, 2, 0)},
		told{"not in lowest terms", askFit(0, 0, 12, 18), isFit(0, 3, 2, 0)},
		told{"counts that stay", askFit(1, 1, 1, 2), no},
		told{"times that stay", askFit(1, 1, 2, 1), no},
		told{"counts that fall", askFit(2, 1, 1, 2), no},
		told{"times that fall", askFit(1, 2, 2, 1), no},
		told{"both fall", askFit(2, 2, 1, 1), no},
		told{"counts that stay in the midst", askFit(0, 0, 5, 5, 5, 6, 9, 9), no},
		told{"times that stay in the midst", askFit(0, 0, 5, 5, 6, 5, 9, 9), no},
		told{"counts that stay at the end", askFit(0, 0, 5, 5, 5, 6), no},
		told{"times that fall at the end", askFit(0, 0, 5, 5, 6, 4), no},
		told{"the greatest rate", askFit(0, 0, 1, most), isFit(0, most, 1, 0)},
		told{"a rate too great", askFit(0, 0, 1, most+1), no},
		told{"the least rate", askFit(0, 0, most, 1), isFit(0, 1, most, 0)},
		told{"a rate too small", askFit(0, 0, most+1, 1), no},
		told{"a rate that comes down to MaxRate", askFit(0, 0, 3, 3*most), isFit(0, most, 1, 0)},
		told{"a rate that doesn't come down", askFit(0, 0, 2, 2*most+1), no},
		told{"from end to end", askFit(-end, -end, end, end), isFit(0, 1, 1, 0)},
		told{"the last Offset", askFit(0, end-1, 1, end), isFit(end-1, 1, 1, 0)},
		told{"an Offset at the end", askFit(-1, end-1, 0, end), isFit(end, 1, 1, 0)},
		told{"an Offset just beyond", askFit(-2, end-1, -1, end), unfit},
		told{"an Offset at the first end", askFit(0, -end, 1, 1-end), isFit(-end, 1, 1, 0)},
		told{"an Offset just ahead of that", askFit(1, -end, 2, 1-end), unfit},
		told{"an Offset of 80 bits", askFit(-end, 0, 1-end, most), unfit},
		told{"an Offset of 80 bits below 0", askFit(end-1, 0, end, most), unfit},
		told{"a floor of 2^64", askFit(-end, 0, 1-end, 1<<14), unfit},
		told{"a worst miss above", askFit(0, 0, 1, 4, 5, 6, 10, 10), isFit(0, 1, 1, 3)},
		told{"a worst miss below", askFit(0, 0, 2, 1, 6, 2, 10, 10), isFit(0, 1, 1, 4)},
		told{"misses on both sides", askFit(0, 0, 1, 4, 8, 5, 10, 10), isFit(0, 1, 1, 3)},
		told{"a miss that a floor makes", askFit(0, 0, 1, 1, 3, 2), isFit(0, 2, 3, 1)},
		told{"a floor that spares a miss", askFit(0, 0, 2, 1, 3, 2), isFit(0, 2, 3, 0)},
		told{"a floor below 0", askFit(-3, 0, -2, 1, 0, 2), isFit(2, 2, 3, 1)},
		told{"a floor below 0 that spares a miss", askFit(-3, 0, -1, 1, 0, 2), isFit(2, 2, 3, 0)},
		told{"the greatest miss", askFit(-end, -end, end-1, 1-end, end, end), isFit(0, 1, 1, 2*end-2)},
	)
}

// P13.5: MaxPairs are taken, the worst one wherever it stands; one more isn't.
func TestFitOfMany(t *testing.T) {
	for _, place := range []int{1, 2, 511, 512, 1021, 1022} {
		var l []api.Pair
		for i := range int64(1024) {
			l = append(l, api.Pair{Count: 10 * i, Time: 20 * i})
		}
		l[place].Time += 7
		if got := saysFit(clock.Fit(l)); got != isFit(0, 2, 1, 7) {
			t.Errorf("1024 pairs, the worst at %d: %+v", place, got)
		}
		l = append(l, api.Pair{Count: 10240, Time: 20480})
		if got := saysFit(clock.Fit(l)); got != fault(api.ErrLong) {
			t.Errorf("1025 pairs: %+v", got)
		}
	}
}

// P13.6: lowest terms, rates beyond, offsets beyond.
func TestThenEdges(t *testing.T) {
	one := clockIs(0, 1, 1)
	no, beyond := fault(api.ErrClock), fault(api.ErrRange)
	hold(t,
		told{"down to lowest terms", askThen(clockIs(0, 6, 4), clockIs(0, 10, 9)), isClock(0, 5, 3)},
		told{"one that isn't in lowest terms", askThen(clockIs(3, 6, 4), one), isClock(3, 3, 2)},
		told{"there and back", askThen(clockIs(0, most, most-1), clockIs(0, most-1, most)), isClock(0, 1, 1)},
		told{"a floor", askThen(clockIs(-5, 1, 1), clockIs(100, 3, 2)), isClock(92, 3, 2)},
		told{"the greatest rate", askThen(clockIs(0, most/2, 1), clockIs(0, 2, 1)), isClock(0, most, 1)},
		told{"a rate just too great", askThen(clockIs(0, 500000001, 1), clockIs(0, 2, 1)), no},
		told{"the least rate", askThen(clockIs(0, 1, most/2), clockIs(0, 1, 2)), isClock(0, 1, most)},
		told{"a rate just too small", askThen(clockIs(0, 1, 500000001), clockIs(0, 1, 2)), no},
		told{"a rate of 10^18", askThen(clockIs(0, most, 1), clockIs(0, most, 1)), no},
		told{"a rate of 10^-18", askThen(clockIs(0, 1, most), clockIs(0, 1, most)), no},
		told{"10^18 that comes down", askThen(clockIs(0, most, 1), clockIs(0, most, most)), isClock(0, most, 1)},
		told{"an Offset at the end", askThen(clockIs(end/2, 1, 1), clockIs(0, 2, 1)), isClock(end, 2, 1)},
		told{"an Offset just beyond", askThen(clockIs(end/2, 1, 1), clockIs(1, 2, 1)), beyond},
		told{"an Offset at the first end", askThen(clockIs(-end/2, 1, 1), clockIs(0, 2, 1)), isClock(-end, 2, 1)},
		told{"an Offset just ahead of that", askThen(clockIs(-end/2-1, 1, 1), clockIs(1, 2, 1)), beyond},
		told{"c's Offset is the last count", askThen(clockIs(end, 1, 1), clockIs(0, 1, 2)), isClock(end/2, 1, 2)},
		told{"an Offset of 80 bits", askThen(clockIs(end, 1, 1), clockIs(0, most, 1)), beyond},
	)
}
