package numeral_test

import (
	"math/rand"
	"slices"
	"strings"
	"testing"

	"binnacle/api"
	"binnacle/numeral"
)

// list is what ParseList says.
type list struct {
	l   []float64
	at  int
	err api.Errno
}

func readList(l []float64, at int, err api.Errno) list { return list{l, at, err} }

func (g list) is(l ...float64) bool {
	return slices.EqualFunc(g.l, l, same) && g.at == 0 && g.err == api.OK
}

func (g list) refused(at int, err api.Errno) bool {
	return len(g.l) == 0 && g.at == at && g.err == err
}

// P7.6: lists as texts, and back.
func TestListTexts(t *testing.T) {
	for _, c := range []struct {
		l    []float64
		want string
	}{
		{nil, ""}, {[]float64{}, ""}, {[]float64{1}, "0x1p0"}, {[]float64{1, 0}, "0x1p0 0x0p0"}, {[]float64{1, 0.5}, "0x1p0 0x1p-1"}, {[]float64{minus, inf, -inf, theNaN, 10}, "-0x0p0 +inf -inf nan 0x1.4p3"}, {[]float64{0, 0, 0}, "0x0p0 0x0p0 0x0p0"}, {[]float64{least, -most}, "0x1p-1074 -0x1.fffffffffffffp1023"},
	} {
		if got, err := numeral.List(c.l); got != c.want || err != api.OK {
			t.Errorf("List(%x): %q, %d", c.l, got, err)
		}
		if got := readList(numeral.ParseList(c.want)); !got.is(c.l...) {
			t.Errorf("ParseList(%q): %x", c.want, got)
		}
	}
	if got, err := numeral.List(nans()); got != "nan"+strings.Repeat(" nan", len(nans())-1) || err != api.OK {
		t.Errorf("List of NaNs: %q, %d", got, err)
	}
}

func TestParseListRefuses(t *testing.T) {
	long := "0x1." + strings.Repeat("1", 1999) + "p0"
	for _, c := range []struct {
		s  string
		at int
	}{
		{"0x1p0  0x0p0", 1}, {" ", 0}, {"  ", 0}, {" 0x1p0", 0}, {"0x1p0 ", 1}, {"0x1p0 0x1p0 ", 2}, {"x", 0}, {"0x1p0 x", 1}, {"0x1p0 0x1.0p0 x", 1}, {"1", 0}, {"0x1p0 1 0x1p0", 1}, {"0x1p0\t0x1p0", 0}, {"0x1p0\n", 0}, {"0x1p0,0x1p0", 0}, {"0x1p0 0x1p0\n", 1}, {"0x1p0\u00a00x1p0", 0}, {"nan nan -nan nan", 2}, {"+inf -inf inf", 2}, {"\xff", 0}, {"0x1p0 \xff", 1}, {"0x1p0 0x1p0 \x00", 2},
		{long, 0}, {"0x1p0 " + long, 1}, {"0x1p0 " + long + " x", 1}, {"x " + long, 0}, {"nan " + strings.Repeat("0", 2000), 1}, {"nan " + strings.Repeat("0", 2001), 1}, {strings.Repeat("nan ", 4095), 4095}, {strings.Repeat("nan ", 4095) + "x", 4095}, {strings.Repeat(" ", 4095), 0},
	} {
		if got := readList(numeral.ParseList(c.s)); !got.refused(c.at, api.ErrNumeral) {
			t.Errorf("ParseList(%q): %x, %d, %d, want place %d", seen(c.s), got.l, got.at, got.err, c.at)
		}
	}
}

// MaxNumerals numbers and one more.
func TestListLong(t *testing.T) {
	l := make([]float64, 4097)
	for i := range l {
		l[i] = float64(i) - 7.25
	}
	text, err := numeral.List(l[:4096])
	if err != api.OK || strings.Count(text, " ") != 4095 {
		t.Errorf("List of 4096 numbers: %q, %d", seen(text), err)
	}
	if got := readList(numeral.ParseList(text)); !got.is(l[:4096]...) {
		t.Errorf("ParseList of 4096 numbers: %d, %d, %d", len(got.l), got.at, got.err)
	}
	for _, n := range []int{4097, 5000, 100000} {
		if got, err := numeral.List(make([]float64, n)); got != "" || err != api.ErrLong {
			t.Errorf("List of %d numbers: %q, %d", n, seen(got), err)
		}
	}
	// Too many pieces are told ahead of what is wrong with one of them.
	for _, s := range []string{text + " 0x1p0", text + " ", " " + text, text + " x", "x " + text, strings.Repeat(" ", 4096), strings.Repeat(" ", 300000), strings.Repeat("x ", 4096), strings.Repeat("0x1p0 ", 10000), strings.Repeat("0", 5000) + strings.Repeat(" nan", 4096)} {
		if got := readList(numeral.ParseList(s)); !got.refused(4096, api.ErrLong) {
			t.Errorf("ParseList(%q): %d, %d, %d", seen(s), len(got.l), got.at, got.err)
		}
	}
}

// chanceList is some list, numbers of all kinds in it.
func chanceList(r *rand.Rand, n int) []float64 {
	l := make([]float64, n)
	for i := range l {
		l[i] = chance(r)
		if r.Intn(6) == 0 {
			l[i] = []float64{inf, -inf, theNaN, minus}[r.Intn(4)]
		}
	}
	return l
}

func TestParseListByChance(t *testing.T) {
	wrong := 0
	r := rand.New(rand.NewSource(11))
	for range 4000 {
		l := chanceList(r, r.Intn(8))
		text, err := numeral.List(l)
		var pieces []string
		for _, x := range l {
			pieces = append(pieces, numeral.Hex(x))
		}
		if text != strings.Join(pieces, " ") || err != api.OK {
			t.Errorf("List(%x): %q, %d", l, text, err)
			few(t, &wrong)
		}
		if got := readList(numeral.ParseList(text)); !got.is(l...) {
			t.Errorf("ParseList(%q): %x", text, got)
			few(t, &wrong)
		}
		checkList(t, spoilt(r, text), &wrong)
	}
}

// checkList holds ParseList against the pieces, read one by one.
func checkList(t *testing.T, s string, wrong *int) {
	t.Helper()
	var want []float64
	got := readList(numeral.ParseList(s))
	for i, piece := range strings.Split(s, " ") {
		x, ok := hexValue(piece)
		if !ok && s != "" {
			if !got.refused(i, api.ErrNumeral) {
				t.Errorf("ParseList(%q): %x, want place %d", s, got, i)
				few(t, wrong)
			}
			return
		}
		want = append(want, x)
	}
	if s == "" {
		want = nil
	}
	if !got.is(want...) {
		t.Errorf("ParseList(%q): %x, want %x", s, got, want)
		few(t, wrong)
	}
}
