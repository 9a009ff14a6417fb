package sum

import (
	"math"
	"math/bits"

	"binnacle/anatomy"
	"binnacle/api"
)

// greatest is the greatest magnitude; of no number 0.
func greatest(l []float64) float64 {
	m := 0.0
	for _, x := range l {
		m = max(m, math.Abs(x))
	}
	return m
}

// powerWithin is the greatest power of 2 that is at most m, a finite number above 0.
func powerWithin(m float64) float64 {
	p, _ := anatomy.Parts(m)
	power, _ := anatomy.Of(api.Parts{Mant: 1, Exp: p.Exp + bits.Len64(p.Mant) - 1})
	return power
}

// divided is each number by s: s may be so small that 1 / s is no number.
func divided(l []float64, s float64) []float64 {
	out := make([]float64, len(l))
	for i, x := range l {
		out[i] = x / s
	}
	return out
}
