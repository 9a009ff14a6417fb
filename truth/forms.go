package truth

import (
	"binnacle/api"
	"binnacle/big"
	"binnacle/exact"
)

// form is one of the three ways to take a row in.
type form int

const (
	joseph      form = iota // the covariance, in Joseph's form
	short                   // the covariance less what the row takes away
	information             // the information, and what the row adds to it
)

// row is what is told of a state: h, as a grid of one row, its variance and its value.
type row struct {
	h    exact.Grid
	r, z big.Rat
}

// readRow reads a row that stands beside so many texts.
func readRow(h []api.Frac, r, z api.Frac, dim int) (row, api.Errno) {
	if len(h) != dim {
		return row{}, api.ErrShape
	}
	column, is := exact.ReadList(h)
	if !is {
		return row{}, api.ErrFrac
	}
	return toldBy(column.Turned(), r, z)
}

// toldBy reads the variance and the value of a row.
func toldBy(h exact.Grid, r, z api.Frac) (row, api.Errno) {
	variance, is := exact.Read(r)
	if !is {
		return row{}, api.ErrFrac
	}
	if variance.Sign() <= 0 {
		return row{}, api.ErrVariance
	}
	value, is := exact.Read(z)
	if !is {
		return row{}, api.ErrFrac
	}
	return row{h, variance, value}, api.OK
}

// readBoth reads what is known, and a row beside it.
func readBoth(list []api.Frac, m api.FracMat, h []api.Frac, r, z api.Frac) (known, row, api.Errno) {
	k, err := readKnown(list, m)
	if err != api.OK {
		return known{}, row{}, err
	}
	w, err := readRow(h, r, z, k.dim())
	return k, w, err
}

// readRows reads a matrix of rows beside which stand as many variances and values; these it doesn't read.
func readRows(h api.FracMat, r, z []api.Frac, dim int) (exact.Grid, api.Errno) {
	out, err := exact.ReadMat(h)
	if err != api.OK {
		return exact.Grid{}, err
	}
	if out.Cols() != dim || len(r) != out.Rows() || len(z) != out.Rows() {
		return exact.Grid{}, api.ErrShape
	}
	return out, api.OK
}

// outlook is what a row is foreseen to tell: the chapter's v and k, as columns, S and y.
type outlook struct {
	along, gain     exact.Grid
	variance, innov big.Rat
}

// foreseen divides by S: with a variance above 0, beside what is positive, it is above 0 itself.
func (k known) foreseen(w row) outlook {
	along := k.mat.Times(w.h.Turned()).Lowest()
	variance := exact.Lowest(w.h.Times(along).At(0, 0).Plus(w.r))
	return outlook{
		along:    along,
		gain:     along.Each(func(v big.Rat) big.Rat { return v.Over(variance) }).Lowest(),
		variance: variance,
		innov:    w.z.Minus(w.h.Times(k.list).At(0, 0)),
	}
}

// with is what is known with one row more, in one of the three forms. No row takes so much away that what was positive is so no more.
func (k known) with(w row, as form) known {
	var out known
	switch as {
	case joseph:
		seen := k.foreseen(w)
		left := exact.Unit(k.dim()).Minus(seen.gain.Times(w.h))
		noise := seen.gain.Each(w.r.Times).Times(seen.gain.Turned())
		out = known{k.moved(seen), left.Sandwich(k.mat).Plus(noise)}
	case short:
		seen := k.foreseen(w)
		out = known{k.moved(seen), k.mat.Minus(seen.gain.Times(seen.along.Turned()))}
	case information:
		share := w.h.Turned().Each(func(x big.Rat) big.Rat { return x.Over(w.r) })
		out = known{k.list.Plus(share.Each(w.z.Times)), k.mat.Plus(share.Times(w.h))}
	}
	return out
}

// moved are the means behind a row.
func (k known) moved(seen outlook) exact.Grid {
	return k.list.Plus(seen.gain.Each(seen.innov.Times))
}
