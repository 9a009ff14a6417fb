package truth_test

import (
	"math"
	"math/big"
	"regexp"
	"slices"

	"binnacle/api"
	"binnacle/interval"
	"binnacle/kalman"
)

// The chapter's words in big.Rat, formula by formula; signs by pivots in fractions.

// refusal is an error by which the words end.
type refusal struct{ err api.Errno }

func refuse(when bool, err api.Errno) {
	if when {
		panic(refusal{err})
	}
}

func allow(err api.Errno) { refuse(err != api.OK, err) }

// reckoned is the answer of some words, or their error.
func reckoned(of func() answer) (out answer) {
	defer func() {
		switch x := recover().(type) {
		case nil:
		case refusal:
			out = fault(x.err)
		default:
			panic(x)
		}
	}()
	return of()
}

var written = regexp.MustCompile(`^(0|-?[1-9][0-9]*)(/[1-9][0-9]*)?$`)

// ratOf is the fraction of a text that is one.
func ratOf(f api.Frac) *big.Rat {
	out, ok := new(big.Rat).SetString(string(f))
	if !ok {
		panic("no fraction: " + f)
	}
	return out
}

// textOf is a fraction's text.
func textOf(x *big.Rat) api.Frac { return api.Frac(x.RatString()) }

func fits(x *big.Rat) bool {
	return x.Num().BitLen() <= api.MaxBits && x.Denom().BitLen() <= api.MaxBits
}

// taken is the fraction of a text, which must be one.
func taken(f api.Frac) *big.Rat {
	refuse(!written.MatchString(string(f)), api.ErrFrac)
	x, ok := new(big.Rat).SetString(string(f))
	refuse(!ok || textOf(x) != f || !fits(x), api.ErrFrac)
	return x
}

// told is the text of a fraction that may be answered.
func told(x *big.Rat) api.Frac {
	refuse(!fits(x), api.ErrLong)
	return textOf(x)
}

// rats is a matrix within the words.
type rats struct {
	rows, cols int
	at         []*big.Rat
}

func made(rows, cols int, tell func(i, j int) *big.Rat) rats {
	out := rats{rows: rows, cols: cols}
	for i := range rows {
		for j := range cols {
			out.at = append(out.at, tell(i, j))
		}
	}
	return out
}

func (m rats) get(i, j int) *big.Rat { return m.at[i*m.cols+j] }

func (m rats) times(o rats) rats {
	return made(m.rows, o.cols, func(i, j int) *big.Rat {
		out := new(big.Rat)
		for k := range m.cols {
			out.Add(out, new(big.Rat).Mul(m.get(i, k), o.get(k, j)))
		}
		return out
	})
}

func (m rats) plus(o rats) rats {
	return made(m.rows, m.cols, func(i, j int) *big.Rat { return new(big.Rat).Add(m.get(i, j), o.get(i, j)) })
}

func (m rats) minus(o rats) rats {
	return made(m.rows, m.cols, func(i, j int) *big.Rat { return new(big.Rat).Sub(m.get(i, j), o.get(i, j)) })
}

func (m rats) scaled(by *big.Rat) rats {
	return made(m.rows, m.cols, func(i, j int) *big.Rat { return new(big.Rat).Mul(m.get(i, j), by) })
}

func (m rats) turned() rats {
	return made(m.cols, m.rows, func(i, j int) *big.Rat { return m.get(j, i) })
}

func unitOf(n int) rats {
	return made(n, n, func(i, j int) *big.Rat {
		if i == j {
			return big.NewRat(1, 1)
		}
		return new(big.Rat)
	})
}

// texts may be too great: told asks that.
func (m rats) texts() api.FracMat {
	out := frac(m.rows, m.cols)
	for _, x := range m.at {
		out.At = append(out.At, textOf(x))
	}
	return out
}

func (m rats) told() api.FracMat {
	out := frac(m.rows, m.cols)
	for _, x := range m.at {
		out.At = append(out.At, told(x))
	}
	return out
}

// isPositive asks of a symmetric matrix whether all pivots are above 0.
func isPositive(m rats) bool {
	a := made(m.rows, m.cols, func(i, j int) *big.Rat { return new(big.Rat).Set(m.get(i, j)) })
	for k := range a.rows {
		if a.get(k, k).Sign() <= 0 {
			return false
		}
		for i := k + 1; i < a.rows; i++ {
			by := new(big.Rat).Quo(a.get(i, k), a.get(k, k))
			for j := k + 1; j < a.cols; j++ {
				a.get(i, j).Sub(a.get(i, j), new(big.Rat).Mul(by, a.get(k, j)))
			}
		}
	}
	return true
}

// inverse is that of a positive matrix, by Gauss and Jordan; no pivot is 0.
func inverse(m rats) rats {
	n := m.rows
	a := made(n, 2*n, func(i, j int) *big.Rat {
		switch {
		case j < n:
			return new(big.Rat).Set(m.get(i, j))
		case j == n+i:
			return big.NewRat(1, 1)
		}
		return new(big.Rat)
	})
	for k := range n {
		by := new(big.Rat).Inv(a.get(k, k))
		for j := range 2 * n {
			a.get(k, j).Mul(a.get(k, j), by)
		}
		for i := range n {
			if i == k {
				continue
			}
			by := new(big.Rat).Set(a.get(i, k))
			for j := range 2 * n {
				a.get(i, j).Sub(a.get(i, j), new(big.Rat).Mul(by, a.get(k, j)))
			}
		}
	}
	return made(n, n, func(i, j int) *big.Rat { return a.get(i, n+j) })
}

// isGood is what a good fraction matrix is.
func isGood(m api.FracMat) rats {
	refuse(m.Rows < 0 || m.Rows > 12 || m.Cols < 0 || m.Cols > 12, api.ErrRange)
	refuse(len(m.At) != m.Rows*m.Cols, api.ErrShape)
	return made(m.Rows, m.Cols, func(i, j int) *big.Rat { return taken(m.At[i*m.Cols+j]) })
}

// isSquareOf is a good one, square, of n rows.
func isSquareOf(m api.FracMat, n int) rats {
	out := isGood(m)
	refuse(out.rows != out.cols || out.rows != n, api.ErrShape)
	return out
}

func column(l []api.Frac) rats {
	return made(len(l), 1, func(i, _ int) *big.Rat { return taken(l[i]) })
}

func isSymmetric(m rats) {
	for i := range m.rows {
		for j := range m.cols {
			refuse(m.get(i, j).Cmp(m.get(j, i)) != 0, api.ErrFracSym)
		}
	}
}

// both is a list, as a column, and the matrix beside it.
type both struct{ x, p rats }

// mayBe: what a state or an information in fractions may be.
func mayBe(x []api.Frac, p api.FracMat) (out both) {
	out.p = isSquareOf(p, len(x))
	out.x = column(x)
	isSymmetric(out.p)
	refuse(!isPositive(out.p), api.ErrCovPos)
	return out
}

func (b both) state() answer {
	return answer{s: api.FracState{X: b.x.told().At, P: b.p.told()}}
}

func (b both) info() answer {
	return answer{a: api.FracInfo{Y: b.p.told(), V: b.x.told().At}}
}

// rowOf: a row, as a column, its variance and its value.
func rowOf(n int, h []api.Frac, r, z api.Frac) (rats, *big.Rat, *big.Rat) {
	refuse(len(h) != n, api.ErrShape)
	c := column(h)
	variance := taken(r)
	refuse(variance.Sign() <= 0, api.ErrVariance)
	return c, variance, taken(z)
}

// wordsOfCheck: P18.1.
func wordsOfCheck(s api.FracState) answer {
	mayBe(s.X, s.P)
	return answer{}
}

// wordsOfOf: P18.1.
func wordsOfOf(s api.State) (out answer) {
	allow(kalman.Check(s))
	out.s.P = frac(s.P.Rows, s.P.Cols)
	for _, x := range s.X {
		out.s.X = append(out.s.X, textOf(exactly(x)))
	}
	for _, x := range s.P.At {
		out.s.P.At = append(out.s.P.At, textOf(exactly(x)))
	}
	return out
}

func exactly(x float64) *big.Rat { return new(big.Rat).SetFloat64(x) }

// nearest has the fraction's sign, if it is 0.
func nearest(x *big.Rat) float64 {
	out, _ := x.Float64()
	refuse(math.IsInf(out, 0), api.ErrOver)
	if out == 0 && x.Sign() < 0 {
		return minus
	}
	return out
}

// wordsOfNear: P18.1.
func wordsOfNear(s api.FracState) (out answer) {
	b := mayBe(s.X, s.P)
	out.n.P = mat(s.P.Rows, s.P.Cols)
	for _, x := range b.x.at {
		out.n.X = append(out.n.X, nearest(x))
	}
	for _, x := range b.p.at {
		out.n.P.At = append(out.n.P.At, nearest(x))
	}
	n := len(s.X)
	refuse(!isPositive(made(n, n, func(i, j int) *big.Rat { return exactly(out.n.P.At[i*n+j]) })), api.ErrCovPos)
	return out
}

// wordsOfPredict: P18.2.
func wordsOfPredict(s api.FracState, f, q api.FracMat) answer {
	b := mayBe(s.X, s.P)
	move := isSquareOf(f, len(s.X))
	noise := isSquareOf(q, len(s.X))
	isSymmetric(noise)
	after := both{move.times(b.x), move.times(b.p).times(move.turned()).plus(noise)}
	refuse(!isPositive(after.p), api.ErrCovPos)
	return after.state()
}

// foreseen: v, S, k and y of P18.3.
func (b both) foreseen(h rats, r, z *big.Rat) (v rats, s *big.Rat, k rats, y *big.Rat) {
	v = b.p.times(h)
	s = new(big.Rat).Add(h.turned().times(v).at[0], r)
	k = made(v.rows, 1, func(i, _ int) *big.Rat { return new(big.Rat).Quo(v.get(i, 0), s) })
	return v, s, k, new(big.Rat).Sub(z, h.turned().times(b.x).at[0])
}

// long is Joseph's form.
func (b both) long(h rats, r, z *big.Rat) both {
	_, _, k, y := b.foreseen(h, r, z)
	a := unitOf(b.x.rows).minus(k.times(h.turned()))
	return both{b.x.plus(k.scaled(y)), a.times(b.p).times(a.turned()).plus(k.scaled(r).times(k.turned()))}
}

// short is P - k v'.
func (b both) short(h rats, r, z *big.Rat) both {
	v, _, k, y := b.foreseen(h, r, z)
	return both{b.x.plus(k.scaled(y)), b.p.minus(k.times(v.turned()))}
}

// learned is Y + h h' / r, V + h z / r.
func (b both) learned(h rats, r, z *big.Rat) both {
	by := new(big.Rat).Inv(r)
	return both{b.x.plus(h.scaled(z).scaled(by)), b.p.plus(h.times(h.turned()).scaled(by))}
}

// inverted is a state as information, and the other way round.
func (b both) inverted() both {
	p := inverse(b.p)
	return both{p.times(b.x), p}
}

// wordsOfUpdate: P18.3.
func wordsOfUpdate(s api.FracState, h []api.Frac, r, z api.Frac) answer {
	b := mayBe(s.X, s.P)
	return b.long(rowOf(len(s.X), h, r, z)).state()
}

// wordsOfShort: P18.3.
func wordsOfShort(s api.FracState, h []api.Frac, r, z api.Frac) answer {
	b := mayBe(s.X, s.P)
	return b.short(rowOf(len(s.X), h, r, z)).state()
}

// wordsOfScore: P18.3.
func wordsOfScore(s api.FracState, h []api.Frac, r, z api.Frac) answer {
	b := mayBe(s.X, s.P)
	_, v, _, y := b.foreseen(rowOf(len(s.X), h, r, z))
	score := new(big.Rat).Mul(y, y)
	return answer{three: [3]api.Frac{told(y), told(v), told(score.Quo(score, v))}}
}

// wordsOfRows: P18.4.
func wordsOfRows(s api.FracState, h api.FracMat, r, z []api.Frac) answer {
	mayBe(s.X, s.P)
	isGood(h)
	refuse(h.Cols != len(s.X) || len(r) != h.Rows || len(z) != h.Rows, api.ErrShape)
	for i := range h.Rows {
		next := reckoned(func() answer { return wordsOfUpdate(s, h.At[i*h.Cols:(i+1)*h.Cols], r[i], z[i]) })
		if next.err != api.OK {
			return answer{err: next.err, place: i}
		}
		s = next.s
	}
	return answer{s: s}
}

// wordsOfInfo: P18.5.
func wordsOfInfo(s api.FracState) answer { return mayBe(s.X, s.P).inverted().info() }

// wordsOfBack: P18.5.
func wordsOfBack(a api.FracInfo) answer { return mayBe(a.V, a.Y).inverted().state() }

// wordsOfLearn: P18.5.
func wordsOfLearn(a api.FracInfo, h []api.Frac, r, z api.Frac) answer {
	b := mayBe(a.V, a.Y)
	return b.learned(rowOf(len(a.V), h, r, z)).info()
}

// isInterval: an interval of chapter 6.
func isInterval(a api.Interval) bool {
	return a.Lo <= a.Hi && a.Lo < inf && a.Hi > -inf
}

// wordsOfCheckBox: P18.6.
func wordsOfCheckBox(b api.Box) answer {
	n := len(b.X)
	refuse(n > 12, api.ErrRange)
	refuse(len(b.P) != n*n, api.ErrShape)
	for _, a := range slices.Concat(b.X, b.P) {
		refuse(!isInterval(a), api.ErrBox)
	}
	for i := range n {
		for j := range n {
			refuse(b.P[i*n+j].Lo != b.P[j*n+i].Lo || b.P[i*n+j].Hi != b.P[j*n+i].Hi, api.ErrBox)
		}
	}
	return answer{}
}

// plain makes noughts +0.
func plain(x float64) float64 {
	if x == 0 {
		return 0
	}
	return x
}

// wordsOfBoxOf: P18.6.
func wordsOfBoxOf(s api.State) (out answer) {
	allow(kalman.Check(s))
	for _, x := range s.X {
		out.b.X = append(out.b.X, point(plain(x)))
	}
	for _, x := range s.P.At {
		out.b.P = append(out.b.P, point(plain(x)))
	}
	return out
}

// lies tells whether a fraction lies from Lo to Hi.
func lies(a api.Interval, x *big.Rat) bool {
	return (math.IsInf(a.Lo, 0) || exactly(a.Lo).Cmp(x) <= 0) && (math.IsInf(a.Hi, 0) || exactly(a.Hi).Cmp(x) >= 0)
}

// wordsOfHolds: P18.6.
func wordsOfHolds(b api.Box, s api.FracState) answer {
	out := reckoned(func() answer {
		wordsOfCheckBox(b)
		m := mayBe(s.X, s.P)
		out := answer{yes: len(b.X) == len(s.X)}
		for i, x := range slices.Concat(m.x.at, m.p.at) {
			out.yes = out.yes && lies(slices.Concat(b.X, b.P)[i], x)
		}
		return out
	})
	return answer{yes: out.yes}
}

// wordsOfInside: P18.6.
func wordsOfInside(b api.Box, s api.State) answer {
	if kalman.Check(s) != api.OK {
		return answer{}
	}
	return wordsOfHolds(b, wordsOfOf(s).s)
}

// inOrder is the Dot of chapter 6.
func inOrder(n int, pair func(k int) (api.Interval, api.Interval)) api.Interval {
	s := point(0)
	for k := range n {
		s = interval.Add(s, interval.Mul(pair(k)))
	}
	return s
}

// isNumberSquare is P8, of square matrices of n rows.
func isNumberSquare(m api.Mat, n int) {
	refuse(m.Rows < 0 || m.Rows > 12 || m.Cols < 0 || m.Cols > 12, api.ErrRange)
	refuse(len(m.At) != m.Rows*m.Cols, api.ErrShape)
	refuse(!areFinite(m.At...), api.ErrNumber)
	refuse(m.Rows != m.Cols || m.Rows != n, api.ErrShape)
}

func areFinite(l ...float64) bool {
	return !slices.ContainsFunc(l, func(x float64) bool { return math.IsNaN(x) || math.IsInf(x, 0) })
}

// mirrored asks for what is from the diagonal down.
func mirrored(n int, tell func(i, j int) api.Interval) []api.Interval {
	out := make([]api.Interval, n*n)
	for i := range n {
		for j := 0; j <= i; j++ {
			out[i*n+j] = tell(i, j)
			out[j*n+i] = out[i*n+j]
		}
	}
	return out
}

// wordsOfBoxPredict: P18.7.
func wordsOfBoxPredict(b api.Box, f, q api.Mat) (out answer) {
	wordsOfCheckBox(b)
	n := len(b.X)
	isNumberSquare(f, n)
	isNumberSquare(q, n)
	for i := range n {
		for j := range n {
			refuse(!sameNumber(q.At[i*n+j], q.At[j*n+i]), api.ErrCovSym)
		}
	}
	m := make([]api.Interval, n*n)
	for i := range n {
		out.b.X = append(out.b.X, inOrder(n, func(k int) (api.Interval, api.Interval) { return point(f.At[i*n+k]), b.X[k] }))
		for j := range n {
			m[i*n+j] = inOrder(n, func(k int) (api.Interval, api.Interval) { return point(f.At[i*n+k]), b.P[k*n+j] })
		}
	}
	out.b.P = mirrored(n, func(i, j int) api.Interval {
		return interval.Add(inOrder(n, func(k int) (api.Interval, api.Interval) { return m[i*n+k], point(f.At[j*n+k]) }), point(q.At[i*n+j]))
	})
	return out
}

// wordsOfBoxUpdate: P18.8.
func wordsOfBoxUpdate(b api.Box, h []float64, r, z float64) (out answer) {
	wordsOfCheckBox(b)
	n := len(b.X)
	refuse(len(h) != n, api.ErrShape)
	refuse(!areFinite(h...) || !areFinite(r), api.ErrNumber)
	refuse(!(r > 0), api.ErrVariance)
	refuse(!areFinite(z), api.ErrNumber)
	v, k, a, ap := make([]api.Interval, n), make([]api.Interval, n), make([]api.Interval, n*n), make([]api.Interval, n*n)
	for i := range n {
		v[i] = inOrder(n, func(l int) (api.Interval, api.Interval) { return b.P[i*n+l], point(h[l]) })
	}
	m := inOrder(n, func(l int) (api.Interval, api.Interval) { return point(h[l]), b.X[l] })
	s := interval.Add(inOrder(n, func(l int) (api.Interval, api.Interval) { return point(h[l]), v[l] }), point(r))
	refuse(!(s.Lo > 0), api.ErrWide)
	y := interval.Sub(point(z), m)
	for i := range n {
		k[i] = interval.Div(v[i], s)
		out.b.X = append(out.b.X, interval.Add(b.X[i], interval.Mul(k[i], y)))
		for j := range n {
			one := point(0)
			if i == j {
				one = point(1)
			}
			a[i*n+j] = interval.Sub(one, interval.Mul(k[i], point(h[j])))
		}
	}
	for i := range n {
		for j := range n {
			ap[i*n+j] = inOrder(n, func(l int) (api.Interval, api.Interval) { return a[i*n+l], b.P[l*n+j] })
		}
	}
	out.b.P = mirrored(n, func(i, j int) api.Interval {
		kept := inOrder(n, func(l int) (api.Interval, api.Interval) { return ap[i*n+l], a[j*n+l] })
		return interval.Add(kept, interval.Mul(interval.Mul(k[i], point(r)), k[j]))
	})
	return out
}
