package info

import (
	"math"
	"slices"

	"binnacle/anatomy"
	"binnacle/api"
)

// pair is a number of the root, and one of the row in the same place.
type pair struct{ root, row float64 }

// rotated is the pair turned by the angle whose cosine is c and whose sine is s. Products are turned into float64s, so that they aren't fused with the sums.
func (p pair) rotated(c, s float64) pair {
	return pair{
		root: float64(c*p.root) + float64(s*p.row),
		row:  float64(c*p.row) - float64(s*p.root),
	}
}

// descent is a row on its way down a root: what is left of its numbers and of its value, the chapter's w and e.
type descent struct {
	root api.RootInfo
	row  []float64
	left float64
}

// weighed is a row at the top of a root, its numbers and its value divided by the root of its variance.
func weighed(a api.RootInfo, h []float64, r, z float64) *descent {
	d := math.Sqrt(r)
	row := make([]float64, len(h))
	for j, x := range h {
		row[j] = x / d
	}
	root := api.RootInfo{R: squareOf(slices.Clone(a.R.At), len(h)), Z: slices.Clone(a.Z)}
	return &descent{root: root, row: row, left: z / d}
}

func (d *descent) isFinite() bool {
	return anatomy.Finite(d.root.R.At) && anatomy.Finite(d.root.Z) && anatomy.Finite(d.row) && areFinite(d.left)
}

// descend rotates the row's number i into the root's diagonal. It looks at each step by itself, so that of several rows of the root that refuse the first one is told.
func (d *descent) descend(i int) api.Errno {
	line, w := rowOf(d.root.R, i), d.row[i]
	if w == 0 {
		return api.OK
	}
	p := line[i]
	g := math.Sqrt(float64(p*p) + float64(w*w))
	if g <= 0 {
		return api.ErrUpperTri
	}
	c, s := p/g, w/g
	line[i] = g
	for j := i + 1; j < len(line); j++ {
		after := pair{line[j], d.row[j]}.rotated(c, s)
		line[j], d.row[j] = after.root, after.row
	}
	after := pair{d.root.Z[i], d.left}.rotated(c, s)
	d.root.Z[i], d.left = after.root, after.row
	if !d.isFinite() {
		return api.ErrOver
	}
	return api.OK
}
