package model

import (
	"binnacle/anatomy"
	"binnacle/api"
)

const (
	mostNoise     = 0x1p100
	leastVariance = 0x1p-200
	mostVariance  = 0x1p200
)

// axis is an axis of a part, its numbers beginning at first in the state.
type axis struct {
	part, axis, first int
	kind              kind
}

// axes are those of all parts, one behind the other, of a motion that may be.
func axes(m api.Motion) []axis {
	var out []axis
	first := 0
	for i, p := range m.Parts {
		k := kindOf(p)
		for j := range p.Axes {
			out = append(out, axis{part: i, axis: j, first: first, kind: k})
			first += k.size
		}
	}
	return out
}

func checkPart(p api.Part) api.Errno {
	switch {
	case kindOf(p).size == 0:
		return api.ErrKind
	case p.Axes < 1 || p.Axes > api.MaxDim:
		return api.ErrRange
	case !anatomy.Finite([]float64{p.Noise, p.Fade}):
		return api.ErrNumber
	case p.Noise < 0 || p.Noise > mostNoise || p.Fade < 0 || p.Fade > mostNoise:
		return api.ErrNoise
	}
	return api.OK
}

// areVariances tells of finite numbers whether they may be variances.
func areVariances(l []float64) bool {
	for _, r := range l {
		if r < leastVariance || r > mostVariance {
			return false
		}
	}
	return true
}

func zeros(rows, cols int) api.Mat {
	return api.Mat{Rows: rows, Cols: cols, At: make([]float64, rows*cols)}
}

// laid is the matrix with the block of each axis on its diagonal, by the formula that is chosen of its kind. Noises, fadings and times are limited so that no step of one is beyond what numbers hold.
func laid(m api.Motion, ticks int64, chosen func(k kind) formula) (api.Mat, api.Errno) {
	dim, err := Dim(m)
	if err != api.OK {
		return api.Mat{}, err
	}
	d, err := Seconds(ticks)
	if err != api.OK || d < 0 {
		return api.Mat{}, api.ErrRange
	}
	out := zeros(dim, dim)
	for _, a := range axes(m) {
		block := chosen(a.kind)(m.Parts[a.part], d)
		for i := range a.kind.size {
			row := block[i*a.kind.size : (i+1)*a.kind.size]
			copy(out.At[(a.first+i)*dim+a.first:], row)
		}
	}
	return out, api.OK
}
