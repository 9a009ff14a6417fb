package model

import (
	"math"

	"binnacle/api"
)

// formula is a block of one axis for d seconds, row by row.
type formula func(p api.Part, d float64) []float64

// kind is how an axis moves: how many numbers it has, and its blocks of F, Q and G.
type kind struct {
	size    int
	f, q, g formula
}

// kindOf is a part's kind; without a number, if there is no such one.
func kindOf(p api.Part) kind {
	switch p.Kind {
	case api.KindStill:
		return kind{1, stays, nothing, nothing}
	case api.KindWalk:
		return kind{1, stays, walkQ, walkG}
	case api.KindSpeed:
		return kind{2, speedF, speedQ, speedG}
	case api.KindPull:
		return kind{3, pullF, pullQ, pullG}
	case api.KindFade:
		return kind{1, fadeF, walkQ, walkG}
	}
	return kind{}
}

func stays(api.Part, float64) []float64 { return []float64{1} }

func nothing(api.Part, float64) []float64 { return []float64{0} }

// fadeF turns the product into a float64 ahead of being added, so that the two aren't fused.
func fadeF(p api.Part, d float64) []float64 {
	return []float64{1 / (1 + float64(p.Fade*d))}
}

func speedF(_ api.Part, d float64) []float64 {
	return []float64{
		1, d,
		0, 1,
	}
}

func pullF(_ api.Part, d float64) []float64 {
	return []float64{
		1, d, d * d / 2,
		0, 1, d,
		0, 0, 1,
	}
}

func walkQ(p api.Part, d float64) []float64 { return []float64{p.Noise * d} }

func speedQ(p api.Part, d float64) []float64 {
	a := p.Noise * d
	b := a * d / 2
	c := a * d * d / 3
	return []float64{
		c, b,
		b, a,
	}
}

func pullQ(p api.Part, d float64) []float64 {
	a := p.Noise * d
	b := a * d / 2
	c := a * d * d / 6
	e := a * d * d / 3
	f := a * d * d * d / 8
	g := a * d * d * d * d / 20
	return []float64{
		g, f, c,
		f, e, b,
		c, b, a,
	}
}

// rootOf is the root of what noise adds to the highest order.
func rootOf(p api.Part, d float64) float64 { return math.Sqrt(p.Noise * d) }

func walkG(p api.Part, d float64) []float64 { return []float64{rootOf(p, d)} }

func speedG(p api.Part, d float64) []float64 {
	a, r := rootOf(p, d), math.Sqrt(3)
	return []float64{
		a * d / r, 0,
		a * r / 2, a / 2,
	}
}

func pullG(p api.Part, d float64) []float64 {
	a, r, t := rootOf(p, d), math.Sqrt(20), math.Sqrt(48)
	return []float64{
		a * d * d / r, 0, 0,
		a * d * r / 8, a * d / t, 0,
		a * r / 6, a * t / 12, a / 3,
	}
}
