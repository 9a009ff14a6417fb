package numeral_test

import (
	"math"
	"math/rand"
	"slices"
	"strconv"
	"strings"
	"testing"

	"binnacle/api"
	"binnacle/numeral"
)

// matrix is what ParseMat says.
type matrix struct {
	m   api.Mat
	at  int
	err api.Errno
}

func readMat(m api.Mat, at int, err api.Errno) matrix { return matrix{m, at, err} }

func mat(rows, cols int, l ...float64) api.Mat { return api.Mat{Rows: rows, Cols: cols, At: l} }

func sameMat(a, b api.Mat) bool {
	return a.Rows == b.Rows && a.Cols == b.Cols && slices.EqualFunc(a.At, b.At, same)
}

func (g matrix) is(m api.Mat) bool { return sameMat(g.m, m) && g.at == 0 && g.err == api.OK }

func (g matrix) refused(at int, err api.Errno) bool {
	return sameMat(g.m, api.Mat{}) && g.at == at && g.err == err
}

// P7.7: matrices as texts, and back.
func TestMatTexts(t *testing.T) {
	for _, c := range []struct {
		m    api.Mat
		want string
	}{
		{mat(1, 2, 1, 2), "1 2 0x1p0 0x1p1"}, {mat(2, 1, 1, 2), "2 1 0x1p0 0x1p1"}, {mat(0, 0), "0 0"}, {mat(0, 12), "0 12"}, {mat(12, 0), "12 0"}, {mat(0, 5), "0 5"}, {mat(1, 1, minus), "1 1 -0x0p0"}, {mat(2, 2, inf, -inf, theNaN, 0.1), "2 2 +inf -inf nan 0x1.999999999999ap-4"}, {mat(2, 3, 1, 2, 3, 4, 5, 6), "2 3 0x1p0 0x1p1 0x1.8p1 0x1p2 0x1.4p2 0x1.8p2"}, {mat(12, 12, make([]float64, 144)...), "12 12" + strings.Repeat(" 0x0p0", 144)}, {mat(10, 1, make([]float64, 10)...), "10 1" + strings.Repeat(" 0x0p0", 10)},
	} {
		if got, err := numeral.Mat(c.m); got != c.want || err != api.OK {
			t.Errorf("Mat(%x): %q, %d", c.m, got, err)
		}
		if got := readMat(numeral.ParseMat(c.want)); !got.is(c.m) {
			t.Errorf("ParseMat(%q): %x", seen(c.want), got)
		}
	}
	for _, x := range nans() {
		if got, err := numeral.Mat(mat(1, 1, x)); got != "1 1 nan" || err != api.OK {
			t.Errorf("Mat of a NaN: %q, %d", got, err)
		}
	}
}

func TestMatRefuses(t *testing.T) {
	for _, c := range []struct {
		m   api.Mat
		err api.Errno
	}{
		{mat(13, 0), api.ErrRange}, {mat(0, 13), api.ErrRange}, {mat(-1, 0), api.ErrRange}, {mat(0, -1), api.ErrRange}, {mat(-1, -1, 1), api.ErrRange}, {mat(13, 1, make([]float64, 13)...), api.ErrRange}, {mat(1, 13, make([]float64, 13)...), api.ErrRange}, {mat(13, 13, 1), api.ErrRange}, {mat(math.MaxInt, math.MaxInt), api.ErrRange}, {mat(math.MinInt, 2), api.ErrRange}, {mat(1<<16, 1<<16), api.ErrRange}, {mat(-2, -3, 1, 2, 3, 4, 5, 6), api.ErrRange}, {mat(1, math.MinInt), api.ErrRange},
		{mat(1, 1), api.ErrShape}, {mat(0, 0, 1), api.ErrShape}, {mat(2, 2, 1, 2, 3), api.ErrShape}, {mat(2, 2, 1, 2, 3, 4, 5), api.ErrShape}, {mat(0, 12, 1), api.ErrShape}, {mat(12, 12, make([]float64, 143)...), api.ErrShape}, {mat(12, 12), api.ErrShape}, {mat(1, 2, theNaN), api.ErrShape},
	} {
		if got, err := numeral.Mat(c.m); got != "" || err != c.err {
			t.Errorf("Mat(%x): %q, %d, want %d", c.m, got, err, c.err)
		}
	}
}

func TestParseMatRefuses(t *testing.T) {
	zeros := func(n int) string { return strings.Repeat(" 0x0p0", n) }
	for _, c := range []struct {
		s   string
		at  int
		err api.Errno
	}{
		{"", 0, api.ErrNumeral}, {" ", 0, api.ErrNumeral}, {"x", 0, api.ErrNumeral}, {" 1 1 0x1p0", 0, api.ErrNumeral}, {"-1 1", 0, api.ErrNumeral}, {"-0 0", 0, api.ErrNumeral}, {"13 1" + zeros(13), 0, api.ErrNumeral}, {"01 1 0x1p0", 0, api.ErrNumeral}, {"00 0", 0, api.ErrNumeral}, {"+1 1 0x1p0", 0, api.ErrNumeral}, {"1.0 1 0x1p0", 0, api.ErrNumeral}, {"1e0 1 0x1p0", 0, api.ErrNumeral}, {"0x1p0 1 0x1p0", 0, api.ErrNumeral}, {"x x x", 0, api.ErrNumeral}, {"18446744073709551617 1 0x1p0", 0, api.ErrNumeral}, {"4294967297 1 0x1p0", 0, api.ErrNumeral}, {"１ 1 0x1p0", 0, api.ErrNumeral}, {"\xff 1", 0, api.ErrNumeral}, {"1\n1 0x1p0", 0, api.ErrNumeral}, {"100 1", 0, api.ErrNumeral}, {strings.Repeat("1", 3000), 0, api.ErrNumeral}, {strings.Repeat("0", 3000) + "1 1 0x1p0", 0, api.ErrNumeral},
		{"1", 1, api.ErrNumeral}, {"0", 1, api.ErrNumeral}, {"12", 1, api.ErrNumeral}, {"1 ", 1, api.ErrNumeral}, {"1  1 0x1p0", 1, api.ErrNumeral}, {"1 x", 1, api.ErrNumeral}, {"1 -1", 1, api.ErrNumeral}, {"1 13" + zeros(13), 1, api.ErrNumeral}, {"0 13", 1, api.ErrNumeral}, {"1 01 0x1p0", 1, api.ErrNumeral}, {"1 1\n0x1p0", 1, api.ErrNumeral}, {"1 +1 x", 1, api.ErrNumeral}, {"1 1.", 1, api.ErrNumeral}, {"1 " + strings.Repeat("1", 3000), 1, api.ErrNumeral},
		{"1 2 0x1p0", 0, api.ErrShape}, {"1 1", 0, api.ErrShape}, {"1 1 0x1p0 0x1p0", 0, api.ErrShape}, {"0 0 ", 0, api.ErrShape}, {"0 0 0x1p0", 0, api.ErrShape}, {"0 12 ", 0, api.ErrShape}, {"1 1 0x1p0 ", 0, api.ErrShape}, {"1 1  0x1p0", 0, api.ErrShape}, {"1 1 x x", 0, api.ErrShape}, {"2 2 x", 0, api.ErrShape}, {"12 12" + zeros(143), 0, api.ErrShape}, {"12 12" + zeros(145), 0, api.ErrShape}, {"1 1" + zeros(100000), 0, api.ErrShape}, {"1 1" + strings.Repeat(" ", 100000), 0, api.ErrShape}, {"0 0" + strings.Repeat(" ", 2), 0, api.ErrShape}, {"2 3" + zeros(5), 0, api.ErrShape},
		{"1 1 ", 2, api.ErrNumeral}, {"1 1 x", 2, api.ErrNumeral}, {"1 1 1", 2, api.ErrNumeral}, {"1 2 0x1p0 x", 3, api.ErrNumeral}, {"1 2 x y", 2, api.ErrNumeral}, {"1 2 0x1p0 ", 3, api.ErrNumeral}, {"1 2  0x1p0", 2, api.ErrNumeral}, {"2 2 0x1p0 0x1p0 0x1.0p0 x", 4, api.ErrNumeral}, {"12 12" + zeros(143) + " -nan", 145, api.ErrNumeral}, {"1 1 0x1p0\n", 2, api.ErrNumeral}, {"1 1 \xff", 2, api.ErrNumeral}, {"1 1 " + strings.Repeat("0", 2000), 2, api.ErrNumeral}, {"1 1 " + strings.Repeat("0", 2001), 2, api.ErrNumeral}, {"1 3 0x1p0  0x1p0", 3, api.ErrNumeral},
	} {
		if got := readMat(numeral.ParseMat(c.s)); !got.refused(c.at, c.err) {
			t.Errorf("ParseMat(%q): %x, want place %d, %d", seen(c.s), got, c.at, c.err)
		}
	}
}

// All shapes that may be, there and back; all others that are near, refused.
func TestMatShapes(t *testing.T) {
	r := rand.New(rand.NewSource(12))
	for rows := -1; rows <= 14; rows++ {
		for cols := -1; cols <= 14; cols++ {
			m := mat(rows, cols, chanceList(r, max(rows*cols, 0))...)
			text, err := numeral.Mat(m)
			line, _ := numeral.List(m.At)
			whole := strings.TrimSuffix(strconv.Itoa(rows)+" "+strconv.Itoa(cols)+" "+line, " ")
			got := readMat(numeral.ParseMat(whole))
			if min(rows, cols) < 0 || max(rows, cols) > 12 {
				place := 1
				if rows < 0 || rows > 12 {
					place = 0
				}
				if text != "" || err != api.ErrRange || !got.refused(place, api.ErrNumeral) {
					t.Errorf("%d rows, %d columns: %q, %d; %x", rows, cols, text, err, got)
				}
				continue
			}
			if text != whole || err != api.OK || !got.is(m) {
				t.Errorf("%d rows, %d columns: %q, %d; %x", rows, cols, seen(text), err, got)
			}
		}
	}
}

// wantMat is what ParseMat should say, by the chapter's words.
func wantMat(s string) matrix {
	pieces := strings.Split(s, " ")
	var sides [2]int
	for i := range sides {
		n, err := -1, error(nil)
		if i < len(pieces) {
			n, err = strconv.Atoi(pieces[i])
		}
		if err != nil || n < 0 || n > 12 || strconv.Itoa(n) != pieces[i] {
			return matrix{at: i, err: api.ErrNumeral}
		}
		sides[i] = n
	}
	if len(pieces)-2 != sides[0]*sides[1] {
		return matrix{err: api.ErrShape}
	}
	m := mat(sides[0], sides[1])
	for i, piece := range pieces[2:] {
		x, ok := hexValue(piece)
		if !ok {
			return matrix{at: 2 + i, err: api.ErrNumeral}
		}
		m.At = append(m.At, x)
	}
	return matrix{m: m}
}

func TestParseMatOfSpoiltTexts(t *testing.T) {
	wrong := 0
	r := rand.New(rand.NewSource(13))
	for range 10000 {
		rows, cols := r.Intn(4), r.Intn(4)
		s, _ := numeral.Mat(mat(rows, cols, chanceList(r, rows*cols)...))
		if s = spoilt(r, s); r.Intn(2) == 0 {
			s = spoilt(r, s[:min(len(s), 5)]) + s[min(len(s), 5):]
		}
		got, want := readMat(numeral.ParseMat(s)), wantMat(s)
		if got.at != want.at || got.err != want.err || !sameMat(got.m, want.m) {
			t.Errorf("ParseMat(%q): %x, want %x", s, got, want)
			few(t, &wrong)
		}
	}
}
