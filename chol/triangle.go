package chol

import (
	"binnacle/api"
	"binnacle/interval"
)

// arithmetic is how one reckons with what stands in a triangle.
type arithmetic[T any] struct {
	point  func(x float64) T
	minus  func(x, y T) T
	times  func(x, y T) T
	by     func(x, y T) T
	beyond func(x T) bool // whether a step that came to x is refused
}

func inNumbers() arithmetic[float64] {
	return arithmetic[float64]{
		point: func(x float64) float64 { return x },
		minus: func(x, y float64) float64 { return x - y },
		// Turned into a float64, so that no product is fused with the difference it goes into.
		times:  func(x, y float64) float64 { return float64(x * y) },
		by:     func(x, y float64) float64 { return x / y },
		beyond: func(x float64) bool { return !isFinite(x) },
	}
}

func inIntervals() arithmetic[api.Interval] {
	return arithmetic[api.Interval]{
		point: func(x float64) api.Interval {
			p, _ := interval.Point(x)
			return p
		},
		minus:  interval.Sub,
		times:  interval.Mul,
		by:     interval.Div,
		beyond: func(api.Interval) bool { return false },
	}
}

// triangle is the factor of a symmetric matrix, worked out column by column.
type triangle[T any] struct {
	arithmetic[T]
	n        int
	at       []T // row by row
	divisors []T // by what each column is divided below the diagonal
}

func blank[T any](how arithmetic[T], n int) *triangle[T] {
	return &triangle[T]{arithmetic: how, n: n, at: make([]T, n*n), divisors: make([]T, n)}
}

func (t *triangle[T]) get(i, j int) T { return t.at[i*t.n+j] }

func (t *triangle[T]) put(i, j int, x T) { t.at[i*t.n+j] = x }

// factor works off the columns of a. Each place has less by the products with the columns ahead; settle takes what is left on the diagonal, and says whether it is refused: then its column is the place.
func (t *triangle[T]) factor(a api.Mat, product func(i, j, k int) T, settle func(j int, d T) api.Errno) (int, api.Errno) {
	left := func(i, j int) T {
		x := t.point(at(a, i, j))
		for k := range j {
			x = t.minus(x, product(i, j, k))
		}
		return x
	}
	place, err := 0, api.OK
columns:
	for j := range t.n {
		// Looking at the end of a place's steps is enough: what isn't finite in them stays so, for no divisor is 0 or infinite.
		d := left(j, j)
		if t.beyond(d) {
			err = api.ErrOver
			break columns
		}
		if err = settle(j, d); err != api.OK {
			place = j
			break columns
		}
		for i := j + 1; i < t.n; i++ {
			x := t.by(left(i, j), t.divisors[j])
			if t.beyond(x) {
				err = api.ErrOver
				break columns
			}
			t.put(i, j, x)
		}
	}
	return place, err
}

// byPivots leaves ones on the diagonal, and the pivots for divisors.
func (t *triangle[T]) byPivots(a api.Mat, holdsNought func(d T) bool) (int, api.Errno) {
	product := func(i, j, k int) T { return t.times(t.times(t.get(i, k), t.get(j, k)), t.divisors[k]) }
	settle := func(j int, d T) api.Errno {
		if holdsNought(d) {
			return api.ErrPivot
		}
		t.put(j, j, t.point(1))
		t.divisors[j] = d
		return api.OK
	}
	return t.factor(a, product, settle)
}
