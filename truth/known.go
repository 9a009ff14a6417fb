package truth

import (
	"binnacle/api"
	"binnacle/big"
	"binnacle/exact"
)

// known is what is known, in fractions without end: a state's means and their covariance, or an information's V and Y.
type known struct {
	list exact.Grid // a column
	mat  exact.Grid // symmetric
}

// readKnown reads a list and the matrix beside it, or tells why they may not be.
func readKnown(list []api.Frac, m api.FracMat) (known, api.Errno) {
	mat, err := readSquare(m, len(list))
	if err != api.OK {
		return known{}, err
	}
	column, is := exact.ReadList(list)
	if !is {
		return known{}, api.ErrFrac
	}
	if !mat.IsSymmetric() {
		return known{}, api.ErrFracSym
	}
	if !isPositive(mat) {
		return known{}, api.ErrCovPos
	}
	return known{column, mat}, api.OK
}

// readSquare reads a matrix that stands beside so many texts.
func readSquare(m api.FracMat, dim int) (exact.Grid, api.Errno) {
	out, err := exact.ReadMat(m)
	if err != api.OK {
		return exact.Grid{}, err
	}
	if !out.IsSquare() || out.Rows() != dim {
		return exact.Grid{}, api.ErrShape
	}
	return out, api.OK
}

func isPositive(m exact.Grid) bool { return m.Sign() == api.SignPositive }

func (k known) dim() int { return k.list.Rows() }

// predicted is the state behind a transition; nobody has asked yet whether it is positive.
func (k known) predicted(move, noise exact.Grid) known {
	return known{move.Times(k.list), move.Sandwich(k.mat).Plus(noise)}
}

// inverted is a state as information, or an information as a state: the same formulas lead from each to the other.
func (k known) inverted() known {
	// What is positive has an inverse.
	mat, _ := k.mat.Solve(exact.Unit(k.dim()))
	return known{mat.Times(k.list), mat}
}

// fitted is what is known in lowest terms, if none of it is too great to be told.
func (k known) fitted() (known, api.Errno) {
	list, fits := k.list.Fitted()
	mat := exact.Mirrored(k.dim(), func(i, j int) big.Rat {
		var f big.Rat
		if fits {
			f, fits = exact.Fitted(k.mat.At(i, j))
		}
		return f
	})
	if !fits {
		return known{}, api.ErrLong
	}
	return known{list, mat}, api.OK
}

// state is what is known, fitted, as a state.
func (k known) state() api.FracState { return api.FracState{X: k.list.Texts(), P: k.mat.TextMat()} }

// told is what is known as a state, if it isn't too great.
func told(k known) (api.FracState, api.Errno) {
	k, err := k.fitted()
	if err != api.OK {
		return api.FracState{}, err
	}
	return k.state(), api.OK
}

// toldInfo is what is known as information, if it isn't too great.
func toldInfo(k known) (api.FracInfo, api.Errno) {
	k, err := k.fitted()
	if err != api.OK {
		return api.FracInfo{}, err
	}
	return api.FracInfo{Y: k.mat.TextMat(), V: k.list.Texts()}, api.OK
}

// texts are fractions' texts, if they can be told.
func texts(f ...big.Rat) ([]api.Frac, api.Errno) {
	out := make([]api.Frac, len(f))
	for i, x := range f {
		fitted, fits := exact.Fitted(x)
		if !fits {
			return nil, api.ErrLong
		}
		out[i] = exact.Text(fitted)
	}
	return out, api.OK
}
