package matrix_test

import (
	"binnacle/api"
	"binnacle/matrix"
)

// call is one of the face's calls, beside what the chapter says of it.
type call struct {
	name      string
	ask, want func(q question) answer
}

func asked(m api.Mat, e api.Errno) answer { return answer{m: m, err: e} }

func askedList(l []float64, e api.Errno) answer { return answer{list: l, err: e} }

func askedNumber(x float64, e api.Errno) answer { return answer{x: [3]float64{x}, err: e} }

func calls() []call {
	return append(append(makers(), takers()...), append(reckoners(), tellers()...)...)
}

// makers: P8.1.
func makers() []call {
	return []call{
		{"Check", func(q question) answer { return fault(matrix.Check(q.a)) },
			func(q question) answer { return fault(wrongMat(q.a)) }},
		{"Zero", func(q question) answer { return asked(matrix.Zero(q.rows, q.cols)) },
			func(q question) answer {
				e := when(q.rows < 0 || q.rows > 12 || q.cols < 0 || q.cols > 12, api.ErrRange)
				return tableIfOK(e, q.rows, q.cols, func(i, j int) float64 { return 0 })
			}},
		{"Eye", func(q question) answer { return asked(matrix.Eye(q.rows)) },
			func(q question) answer {
				return tableIfOK(when(q.rows < 0 || q.rows > 12, api.ErrRange), q.rows, q.rows, func(i, j int) float64 {
					if i == j {
						return 1
					}
					return 0
				})
			}},
		{"Diag", func(q question) answer { return asked(matrix.Diag(q.x)) },
			func(q question) answer {
				return tableIfOK(wrongList(q.x), len(q.x), len(q.x), func(i, j int) float64 {
					if i == j {
						return q.x[i]
					}
					return 0
				})
			}},
		{"Of", func(q question) answer { return asked(matrix.Of(q.grid)) }, wantOf},
	}
}

// takers: P8.2.
func takers() []call {
	place := func(q question) api.Errno {
		return first(wrongMat(q.a), when(outside(q.i, 1, q.a.Rows) || outside(q.j, 1, q.a.Cols), api.ErrRange))
	}
	return []call{
		{"Get", func(q question) answer { return askedNumber(matrix.Get(q.a, q.i, q.j)) },
			func(q question) answer {
				return ifOK(place(q), func() answer { return answer{x: [3]float64{number(q.a, q.i, q.j)}} })
			}},
		{"With", func(q question) answer { return asked(matrix.With(q.a, q.i, q.j, q.s)) },
			func(q question) answer {
				return tableIfOK(first(place(q), wrongNumbers(q.s)), q.a.Rows, q.a.Cols, func(i, j int) float64 {
					if i == q.i && j == q.j {
						return q.s
					}
					return number(q.a, i, j)
				})
			}},
		{"Row", func(q question) answer { return askedList(matrix.Row(q.a, q.i)) },
			func(q question) answer {
				e := first(wrongMat(q.a), when(outside(q.i, 1, q.a.Rows), api.ErrRange))
				return ifOK(e, func() answer { return answer{list: rowOf(q.a, q.i)} })
			}},
		{"Col", func(q question) answer { return askedList(matrix.Col(q.a, q.j)) },
			func(q question) answer {
				e := first(wrongMat(q.a), when(outside(q.j, 1, q.a.Cols), api.ErrRange))
				return ifOK(e, func() answer { return answer{list: colOf(q.a, q.j)} })
			}},
		{"Transpose", func(q question) answer { return asked(matrix.Transpose(q.a)) },
			func(q question) answer {
				return tableIfOK(wrongMat(q.a), q.a.Cols, q.a.Rows, func(i, j int) float64 { return number(q.a, j, i) })
			}},
		{"Block", func(q question) answer { return asked(matrix.Block(q.a, q.i, q.j, q.rows, q.cols)) },
			func(q question) answer {
				e := first(wrongMat(q.a), when(outside(q.i, q.rows, q.a.Rows) || outside(q.j, q.cols, q.a.Cols), api.ErrRange))
				return tableIfOK(e, q.rows, q.cols, func(i, j int) float64 { return number(q.a, q.i+i, q.j+j) })
			}},
		{"Beside", func(q question) answer { return asked(matrix.Beside(q.a, q.b)) }, wantBeside},
		{"Stack", func(q question) answer { return asked(matrix.Stack(q.a, q.b)) }, wantStack},
		{"Order", func(q question) answer { return asked(matrix.Order(q.a, q.p)) }, wantOrder},
	}
}

// reckoners: P8.3, P8.4.
func reckoners() []call {
	return []call{
		{"Add", func(q question) answer { return asked(matrix.Add(q.a, q.b)) },
			func(q question) answer { return wantAlike(q, plus) }},
		{"Sub", func(q question) answer { return asked(matrix.Sub(q.a, q.b)) },
			func(q question) answer {
				return wantAlike(q, func(x, y float64) float64 { return plus(x, -y) })
			}},
		{"Scale", func(q question) answer { return asked(matrix.Scale(q.a, q.s)) },
			func(q question) answer {
				e := first(wrongMat(q.a), wrongNumbers(q.s))
				return tableIfOK(e, q.a.Rows, q.a.Cols, func(i, j int) float64 { return times(number(q.a, i, j), q.s) })
			}},
		{"Mul", func(q question) answer { return asked(matrix.Mul(q.a, q.b)) },
			func(q question) answer {
				e := first(wrongMat(q.a), wrongMat(q.b), when(q.a.Cols != q.b.Rows, api.ErrShape))
				return tableIfOK(e, q.a.Rows, q.b.Cols, func(i, j int) float64 { return dotInOrder(rowOf(q.a, i), colOf(q.b, j)) })
			}},
		{"MulVec", func(q question) answer { return askedList(matrix.MulVec(q.a, q.x)) },
			func(q question) answer {
				e := first(wrongMat(q.a), wrongList(q.x), when(q.a.Cols != len(q.x), api.ErrShape))
				return ifOK(e, func() answer {
					var out answer
					for i := 0; i < q.a.Rows; i++ {
						out.list = append(out.list, dotInOrder(rowOf(q.a, i), q.x))
					}
					return out
				})
			}},
		{"Dot", func(q question) answer { return askedNumber(matrix.Dot(q.x, q.y)) },
			func(q question) answer {
				e := first(wrongList(q.x), wrongList(q.y), when(len(q.x) != len(q.y), api.ErrShape))
				return ifOK(e, func() answer { return answer{x: [3]float64{dotInOrder(q.x, q.y)}} })
			}},
		{"Outer", func(q question) answer { return asked(matrix.Outer(q.x, q.y)) },
			func(q question) answer {
				e := first(wrongList(q.x), wrongList(q.y))
				return tableIfOK(e, len(q.x), len(q.y), func(i, j int) float64 { return times(q.x[i], q.y[j]) })
			}},
		{"Sandwich", func(q question) answer { return asked(matrix.Sandwich(q.a, q.b)) }, wantSandwich},
	}
}

// tellers: P8.5, P8.6.
func tellers() []call {
	return []call{
		{"Symmetric", func(q question) answer { return truth(matrix.Symmetric(q.a)) }, wantSymmetric},
		{"Lower", func(q question) answer { return truth(matrix.Lower(q.a)) }, wantLower},
		{"Mirror", func(q question) answer { return asked(matrix.Mirror(q.a)) },
			func(q question) answer {
				return tableIfOK(square(q.a), q.a.Rows, q.a.Rows, belowDiagonal(func(i, j int) float64 { return number(q.a, i, j) }))
			}},
		{"Mean", func(q question) answer { return asked(matrix.Mean(q.a)) }, wantMean},
		{"Trace", func(q question) answer { return askedNumber(matrix.Trace(q.a)) }, wantTrace},
		{"Norms", func(q question) answer {
			one, most, greatest, e := matrix.Norms(q.a)
			return answer{x: [3]float64{one, most, greatest}, err: e}
		}, wantNorms},
		{"Equal", func(q question) answer { return truth(matrix.Equal(q.a, q.b)) }, wantEqual},
	}
}
