package numeral_test

import (
	"math"
	"math/rand"
	"slices"
	"strings"
	"testing"

	"binnacle/api"
	"binnacle/numeral"
)

// roomy is a copy of a list with spare room that isn't empty.
func roomy(l []float64) []float64 {
	out := append(slices.Clone(l), 11, 22, 33)
	return out[:len(l)]
}

// all is all of a list, its spare room too.
func all(l []float64) []float64 { return l[:cap(l)] }

// P2: what is handed in isn't changed, its spare room neither, and isn't kept.
func TestListsStayAsTheyAre(t *testing.T) {
	r := rand.New(rand.NewSource(18))
	for n := range 50 {
		l := append(chanceList(r, n), nans()[:2]...)
		given := roomy(l)
		before := slices.Clone(all(given))
		first, _ := numeral.List(given)
		line, _ := numeral.Mat(mat(1, len(given), given...))
		refused, _ := numeral.Mat(api.Mat{Rows: 13, Cols: 2, At: given})
		if !slices.EqualFunc(all(given), before, same) || refused != "" {
			t.Errorf("%x was changed", l)
		}
		kept, lineKept := strings.Clone(first), strings.Clone(line)
		for i := range all(given) {
			all(given)[i] = 77
		}
		if first != kept || line != lineKept {
			t.Errorf("%x: a text changed with the list", l)
		}
		if again, _ := numeral.List(l); again != first {
			t.Errorf("List(%x): %q, then %q", l, first, again)
		}
	}
}

// An answer is new memory, its spare room too.
func TestAnswersAreNew(t *testing.T) {
	const line = "0x1p0 0x1p1 nan -0x0p0"
	ask := []func() []float64{
		func() []float64 { l, _, _ := numeral.ParseList(line); return l },
		func() []float64 { m, _, _ := numeral.ParseMat("2 2 " + line); return m.At },
	}
	for _, read := range ask {
		first, second := read(), read()
		for i := range all(first) {
			all(first)[i] = 77
		}
		if !slices.EqualFunc(second, []float64{1, 2, theNaN, minus}, same) || !slices.EqualFunc(read(), second, same) {
			t.Errorf("two answers lie in one memory: %x", second)
		}
	}
}

// P3: nil and empty lists are the same.
func TestNilIsEmpty(t *testing.T) {
	for _, l := range [][]float64{nil, {}, make([]float64, 0, 5)} {
		if got, err := numeral.List(l); got != "" || err != api.OK {
			t.Errorf("List of nothing: %q, %d", got, err)
		}
		for _, m := range []api.Mat{{Rows: 0, Cols: 3, At: l}, {Rows: 3, Cols: 0, At: l}, {At: l}} {
			if got, err := numeral.Mat(m); err != api.OK || len(got) != 3 {
				t.Errorf("Mat of nothing: %q, %d", got, err)
			}
		}
		if got, err := numeral.Mat(api.Mat{Rows: 1, Cols: 1, At: l}); got != "" || err != api.ErrShape {
			t.Errorf("Mat without its number: %q, %d", got, err)
		}
	}
}

// answers is all that the calls say of a text, a number, a single, a time.
func answers(s string, x float64, y float32, n int64) []string {
	out := []string{numeral.Hex(x), numeral.Short(x), numeral.Short32(y), numeral.Full(x)}
	when, err := numeral.Time(n)
	line, errLine := numeral.List([]float64{x, float64(n)})
	rows, errRows := numeral.Mat(api.Mat{Rows: int(n), Cols: len(s) - 3, At: []float64{x}})
	add := func(w ...uint64) {
		for _, v := range w {
			out = append(out, string(rune(v>>48))+string(rune(v>>24&0xffffff))+string(rune(v&0xffffff)))
		}
	}
	out = append(out, when, line, rows)
	hex, errHex := numeral.ParseHex(s)
	number, errNumber := numeral.Parse(s)
	single, errSingle := numeral.Parse32(s)
	tick, errTick := numeral.ParseTime(s)
	list, at, errList := numeral.ParseList(s)
	matrix, place, errMatrix := numeral.ParseMat(s)
	add(math.Float64bits(hex), math.Float64bits(number), uint64(math.Float32bits(single)), uint64(tick), uint64(at), uint64(place), uint64(matrix.Rows), uint64(matrix.Cols))
	for _, v := range append(list, matrix.At...) {
		add(math.Float64bits(v))
	}
	for _, e := range []api.Errno{err, errLine, errRows, errHex, errNumber, errSingle, errTick, errList, errMatrix} {
		add(uint64(e))
	}
	return out
}

// P1, P2: whatever comes in, every call ends, and says the same when it is asked again, in another order.
func TestAnythingComesIn(t *testing.T) {
	type question struct {
		s string
		x float64
		y float32
		n int64
	}
	r := rand.New(rand.NewSource(19))
	var asked []question
	var said [][]string
	for range 4000 {
		bytes := make([]byte, r.Intn(40))
		for i := range bytes {
			if bytes[i] = "0123456789abcdef.-+px n"[r.Intn(23)]; r.Intn(20) == 0 {
				bytes[i] = byte(r.Intn(256))
			}
		}
		q := question{string(bytes), math.Float64frombits(r.Uint64()), math.Float32frombits(r.Uint32()), int64(r.Uint64()) >> r.Intn(64)}
		switch r.Intn(30) {
		case 0:
			q.s = strings.Repeat(q.s, 1+r.Intn(3000))
		case 1, 2, 3:
			q.s = numeral.Hex(q.x)
		case 4, 5, 6:
			q.s = numeral.Full(float64(q.y))
		}
		asked = append(asked, q)
		said = append(said, answers(q.s, q.x, q.y, q.n))
	}
	for i, q := range slices.Backward(asked) {
		if !slices.Equal(answers(q.s, q.x, q.y, q.n), said[i]) {
			t.Fatalf("asked again, something else is said of %q, %x, %x, %d", seen(q.s), q.x, q.y, q.n)
		}
	}
}
