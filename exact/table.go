package exact

import (
	"iter"

	"binnacle/api"
	"binnacle/big"
)

// table is a matrix of whole numbers, row by row, that is eliminated without fractions, as Bareiss does it: its numbers are always determinants of pieces of what it was at first, so that each division by a pivot goes without a rest. A row that a pivot has nothing to clear in waits with that step: it would only grow by it.
type table struct {
	rows, cols int
	at         []big.Int
	scales     []big.Int // by what each row of the grid was multiplied, all above 0
	lasts      []big.Int // 1, and the pivots
	level      []int     // at which of these each row is
	turned     bool      // whether rows were exchanged an odd number of times
}

// cleared is a grid whose rows are multiplied by the least numbers that leave nothing below a stroke. Neither ranks nor solutions nor the signs of determinants change by that.
func (g Grid) cleared() *table {
	out := &table{rows: g.rows, cols: g.cols, lasts: []big.Int{one()}, level: make([]int, g.rows)}
	for i := range g.rows {
		row := g.at[i*g.cols : (i+1)*g.cols]
		scale := one()
		for _, f := range row {
			scale = big.Common(scale, f.Below())
		}
		for _, f := range row {
			out.at = append(out.at, f.Above().Times(scale.Exact(f.Below())))
		}
		out.scales = append(out.scales, scale)
	}
	return out
}

func (t *table) row(i int) []big.Int { return t.at[i*t.cols : (i+1)*t.cols] }

// pivots goes over the places by which columns are cleared, in the first cols columns: of each column the first number that isn't 0, in the rows behind those of the pivots ahead; its row is set behind them. It is sought when the loop has done with the pivots ahead: so the loop must clear their columns.
func (t *table) pivots(cols int) iter.Seq2[int, int] {
	return func(yield func(int, int) bool) {
		row := 0
		for col := range cols {
			if !t.raise(row, col) {
				continue
			}
			if !yield(row, col) {
				return
			}
			row++
		}
	}
}

// raise sets the first row, from row on, that has no 0 in a column, to the place row; false, if there is none.
func (t *table) raise(row, col int) bool {
	for i := row; i < t.rows; i++ {
		if t.row(i)[col].Sign() == 0 {
			continue
		}
		if i != row {
			t.exchange(i, row)
		}
		return true
	}
	return false
}

func (t *table) exchange(i, k int) {
	upper, lower := t.row(i), t.row(k)
	for j := range upper {
		upper[j], lower[j] = lower[j], upper[j]
	}
	t.level[i], t.level[k] = t.level[k], t.level[i]
	t.turned = !t.turned
}

// clear makes noughts of a pivot's column in the rows from a place on, but for its own row. What stands ahead of that column isn't looked at any more, and stays.
func (t *table) clear(row, col, from int) {
	by := t.row(row)[col:]
	t.lift(row, by)
	for i := from; i < t.rows; i++ {
		if other := t.row(i)[col:]; i != row && other[0].Sign() != 0 {
			clearBy(other, by, t.lasts[t.level[i]])
			t.level[i] = len(t.lasts)
		}
	}
	t.level[row] = len(t.lasts)
	t.lasts = append(t.lasts, by[0])
}

// lift makes up for the steps that a row has waited with.
func (t *table) lift(row int, numbers []big.Int) {
	if t.level[row] == len(t.lasts)-1 {
		return
	}
	from, to := t.lasts[t.level[row]], t.last()
	for j := range numbers {
		numbers[j] = numbers[j].Times(to).Exact(from)
	}
}

// clearBy clears the first number of a row by another one's, with the division that the row's level asks for.
func clearBy(row, by []big.Int, last big.Int) {
	pivot, factor := by[0], row[0]
	row[0] = big.Int{}
	for j := 1; j < len(row); j++ {
		row[j] = pivot.Times(row[j]).Minus(factor.Times(by[j])).Exact(last)
	}
}

func (t *table) last() big.Int { return t.lasts[len(t.lasts)-1] }

// rank clears the table downward.
func (t *table) rank() int {
	found := 0
	for row, col := range t.pivots(t.cols) {
		t.clear(row, col, row+1)
		found++
	}
	return found
}

// full clears its first columns, as many as it has rows, downward or, with upward, in all other rows; false, if one of them has no pivot.
func (t *table) full(upward bool) bool {
	found := 0
	for row, col := range t.pivots(t.rows) {
		if row != col {
			return false
		}
		from := row + 1
		if upward {
			from = 0
		}
		t.clear(row, col, from)
		found++
	}
	return found == t.rows
}

// det is the determinant of a square table: the last pivot, if each column has one.
func (t *table) det() big.Int {
	switch {
	case !t.full(false):
		return big.Int{}
	case t.turned:
		return t.last().Neg()
	}
	return t.last()
}

// solve is what the columns behind the first ones, as many as there are rows, come to: cleared upward, too, they are the solutions times the pivot that each row is at. It is false, if the first ones have no inverse.
func (t *table) solve() (Grid, bool) {
	if !t.full(true) {
		return Grid{}, false
	}
	return Filled(t.rows, t.cols-t.rows, func(i, j int) big.Rat {
		return big.Ratio(t.row(i)[t.rows+j], t.lasts[t.level[i]])
	}), true
}

// diagonal goes over the diagonal's places with the signs of their numbers, as they are when the loop has done with those ahead.
func (t *table) diagonal() iter.Seq2[int, int] {
	return func(yield func(int, int) bool) {
		for i := range t.rows {
			if !yield(i, t.row(i)[i].Sign()) {
				return
			}
		}
	}
}

// sign is that of the symmetric grid that was cleared. Its pivots stand on the diagonal alone: x' A x is a sum of squares then, each times something with the sign of its pivot. A pivot of 0 whose row isn't noughts would let x' A x fall below 0 near it.
func (t *table) sign() api.Sign {
	out := api.SignPositive
	for i, sign := range t.diagonal() {
		switch {
		case sign > 0:
			t.clear(i, i, i+1)
		case sign < 0 || !t.noughtsFrom(i):
			return api.SignOther
		default:
			out = api.SignSemi
		}
	}
	return out
}

func (t *table) noughtsFrom(i int) bool {
	for _, n := range t.row(i)[i:] {
		if n.Sign() != 0 {
			return false
		}
	}
	return true
}
