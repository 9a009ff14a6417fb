package sum

import (
	"iter"

	"binnacle/anatomy"
	"binnacle/api"
)

// adder is a way to sum a list.
type adder func(l []float64) (float64, api.Errno)

// ways are made anew at each call, so that nothing is kept that could be changed.
func ways() map[api.SumWay]adder {
	return map[api.SumWay]adder{
		api.WayLeft:     sure(Left),
		api.WayPairs:    sure(Pairs),
		api.WayKahan:    sure(Kahan),
		api.WayNeumaier: sure(Neumaier),
		api.WayExact:    Exact,
	}
}

// sure is a way that refuses no list.
func sure(add func(l []float64) float64) adder {
	return func(l []float64) (float64, api.Errno) {
		return add(l), api.OK
	}
}

// running goes over the sums in order of a list's beginnings, from that of its first number on.
func running(l []float64) iter.Seq[float64] {
	return func(yield func(float64) bool) {
		s := 0.0
		for _, x := range l {
			s += x
			if !yield(anatomy.Canon(s)) {
				return
			}
		}
	}
}
