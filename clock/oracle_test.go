package clock_test

import (
	"math/big"

	"binnacle/api"
)

// What the chapter's words say, in the library's whole numbers and fractions, which have no end.

func whole(n int64) *big.Int { return big.NewInt(n) }

func power(n uint) *big.Int { return new(big.Int).Lsh(whole(1), n) }

func sum(a, b *big.Int) *big.Int { return new(big.Int).Add(a, b) }

func less(a, b *big.Int) *big.Int { return new(big.Int).Sub(a, b) }

func times(a, b *big.Int) *big.Int { return new(big.Int).Mul(a, b) }

// floorOf is the greatest whole number that isn't above x.
func floorOf(x *big.Rat) *big.Int {
	q, rest := new(big.Int).QuoRem(x.Num(), x.Denom(), new(big.Int))
	if rest.Sign() < 0 {
		return less(q, whole(1))
	}
	return q
}

func fraction(a, b *big.Int) *big.Rat { return new(big.Rat).SetFrac(a, b) }

func rateOf(c api.Clock) *big.Rat { return big.NewRat(c.Num, c.Den) }

// within tells if n lies from -2^bits to 2^bits: counts and times with 50, drifts with 62.
func within(n *big.Int, bits uint) bool { return n.CmpAbs(power(bits)) <= 0 }

func mayBe(c api.Clock) bool {
	return c.Num >= 1 && c.Num <= 1000000000 && c.Den >= 1 && c.Den <= 1000000000 && within(whole(c.Offset), 50)
}

func fault(err api.Errno) answer { return answer{err: err} }

// limited answers n, or ErrRange beyond 2^bits.
func limited(n *big.Int, bits uint) answer {
	if !within(n, bits) {
		return fault(api.ErrRange)
	}
	return answer{n: n.Int64()}
}

func wordsOfCheck(q question) answer {
	if !mayBe(q.c) {
		return fault(api.ErrClock)
	}
	return answer{}
}

// exactTime is the time of a count, whether it is one or not.
func exactTime(c api.Clock, count *big.Int) *big.Int {
	return sum(whole(c.Offset), floorOf(fraction(times(count, whole(c.Num)), whole(c.Den))))
}

func wordsOfTime(q question) answer {
	switch {
	case !mayBe(q.c):
		return fault(api.ErrClock)
	case !within(whole(q.n), 50):
		return fault(api.ErrRange)
	}
	return limited(exactTime(q.c, whole(q.n)), 50)
}

// wordsOfCount halves what is left between a number whose time is before t and one whose time isn't.
func wordsOfCount(q question) answer {
	switch {
	case !mayBe(q.c):
		return fault(api.ErrClock)
	case !within(whole(q.n), 50):
		return fault(api.ErrRange)
	}
	t := whole(q.n)
	before, behind := new(big.Int).Neg(power(90)), power(90)
	for less(behind, before).Cmp(whole(1)) > 0 {
		middle := new(big.Int).Rsh(sum(before, behind), 1)
		if exactTime(q.c, middle).Cmp(t) < 0 {
			before = middle
		} else {
			behind = middle
		}
	}
	return limited(behind, 50)
}

// wordsOfUnwrap looks at all n near the last one that have the stamp as their remainder, the least one first.
func wordsOfUnwrap(q question) answer {
	if !within(whole(q.n), 50) {
		return fault(api.ErrRange)
	}
	last, round := whole(q.n), power(32)
	var nearest *big.Int
	for k := int64(-2); k <= 2; k++ {
		turns := sum(floorOf(fraction(last, round)), whole(k))
		n := sum(times(turns, round), whole(int64(q.stamp)))
		if nearest == nil || less(n, last).CmpAbs(less(nearest, last)) <= 0 {
			nearest = n
		}
	}
	return limited(nearest, 50)
}

func wordsOfDrift(q question) answer {
	if !mayBe(q.c) || !mayBe(q.d) {
		return fault(api.ErrClock)
	}
	x := new(big.Rat).Quo(rateOf(q.c), rateOf(q.d))
	x.Sub(x, big.NewRat(1, 1))
	return limited(floorOf(x.Mul(x, big.NewRat(1000000000, 1))), 62)
}

func wordsOfApart(q question) answer {
	a, b := wordsOfTime(question{c: q.c, n: q.n}), wordsOfTime(question{c: q.d, n: q.n})
	switch {
	case a.err != api.OK:
		return a
	case b.err != api.OK:
		return b
	}
	return answer{n: a.n - b.n}
}

// rises tells if counts and times rise strictly, all pairs held against all.
func rises(l []api.Pair) bool {
	for i, later := range l {
		for _, earlier := range l[:i] {
			if later.Count <= earlier.Count || later.Time <= earlier.Time {
				return false
			}
		}
	}
	return true
}

// clockOf has a rate, in lowest terms as the library's fractions always are; false: above MaxRate.
func clockOf(rate *big.Rat) (api.Clock, bool) {
	most := whole(1000000000)
	if rate.Num().Cmp(most) > 0 || rate.Denom().Cmp(most) > 0 {
		return api.Clock{}, false
	}
	return api.Clock{Num: rate.Num().Int64(), Den: rate.Denom().Int64()}, true
}

func wordsOfFit(q question) answer {
	if len(q.l) > 1024 {
		return fault(api.ErrLong)
	}
	for _, p := range q.l {
		if !within(whole(p.Count), 50) || !within(whole(p.Time), 50) {
			return fault(api.ErrRange)
		}
	}
	if len(q.l) < 2 || !rises(q.l) {
		return fault(api.ErrPairs)
	}
	first, last := q.l[0], q.l[len(q.l)-1]
	c, ok := clockOf(big.NewRat(last.Time-first.Time, last.Count-first.Count))
	if !ok {
		return fault(api.ErrPairs)
	}
	offset := less(whole(first.Time), exactTime(c, whole(first.Count)))
	if !within(offset, 50) {
		return fault(api.ErrClock)
	}
	c.Offset = offset.Int64()
	worst := new(big.Int)
	for _, p := range q.l {
		if miss := less(exactTime(c, whole(p.Count)), whole(p.Time)); miss.CmpAbs(worst) > 0 {
			worst.Abs(miss)
		}
	}
	return answer{c: c, n: worst.Int64()}
}

func wordsOfThen(q question) answer {
	if !mayBe(q.c) || !mayBe(q.d) {
		return fault(api.ErrClock)
	}
	c, ok := clockOf(new(big.Rat).Mul(rateOf(q.c), rateOf(q.d)))
	if !ok {
		return fault(api.ErrClock)
	}
	offset := wordsOfTime(question{c: q.d, n: q.c.Offset})
	if offset.err != api.OK {
		return offset
	}
	c.Offset = offset.n
	return answer{c: c}
}
