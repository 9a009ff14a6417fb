package numeral_test

import (
	"math"
	"math/big"
	"math/rand"
	"sort"
	"strconv"
	"strings"
	"testing"

	"binnacle/api"
	"binnacle/numeral"
)

// P7.8: what is written is read again, bit by bit, a NaN as the NaN.
func TestThereAndBack(t *testing.T) {
	wrong := 0
	list := append(numbers(3000, 14), inf, -inf, theNaN)
	for _, x := range append(list, nans()...) {
		want := x
		if math.IsNaN(x) {
			want = theNaN
		}
		for name, got := range map[string]number{"Hex": read(numeral.ParseHex(numeral.Hex(x))), "Short": read(numeral.Parse(numeral.Short(x))), "Full": read(numeral.Parse(numeral.Full(x)))} {
			if !got.is(want, api.OK) {
				t.Errorf("%s: %x is read as %x", name, x, got)
				few(t, &wrong)
			}
		}
		l, at, err := numeral.ParseList(text(numeral.List([]float64{x, 1, x})))
		if len(l) != 3 || at != 0 || err != api.OK || !same(l[0], want) || l[1] != 1 || !same(l[2], want) {
			t.Errorf("List: %x is read as %x", x, l)
			few(t, &wrong)
		}
		if got := readMat(numeral.ParseMat(text(numeral.Mat(mat(1, 2, x, 1))))); !got.is(mat(1, 2, want, 1)) {
			t.Errorf("Mat: %x is read as %x", x, got)
			few(t, &wrong)
		}
	}
	for _, x := range append(singles(3000, 15), nans32()...) {
		want := x
		if x != x {
			want = math.Float32frombits(0x7fc00000)
		}
		if got, err := numeral.Parse32(numeral.Short32(x)); !same32(got, want) || err != api.OK {
			t.Errorf("Short32: %x is read as %x, %d", x, got, err)
			few(t, &wrong)
		}
		// A single is a number too: its exact text is read as both.
		if got, err := numeral.Parse32(numeral.Full(float64(x))); !same32(got, want) || err != api.OK {
			t.Errorf("Full: %x is read as %x, %d", x, got, err)
			few(t, &wrong)
		}
	}
}

func text(s string, _ api.Errno) string { return s }

// P7.9: no text with a digit less is read as the number, of all those that come near it from either side.
func TestNoShorterOne(t *testing.T) {
	wrong := 0
	list := append(numbers(1500, 16), powers()[:300]...)
	for _, x := range append(list, powers()[5900:]...) {
		short := numeral.Short(x)
		mantissa, power, _ := strings.Cut(strings.TrimPrefix(short, "-"), "e")
		digits := strings.Replace(mantissa, ".", "", 1)
		if len(digits) < 2 {
			continue
		}
		exp, _ := strconv.Atoi(power)
		fewer := digits[:len(digits)-1]
		first, _ := strconv.ParseInt(fewer, 10, 64)
		sign := strings.Repeat("-", map[bool]int{true: 1}[math.Signbit(x)])
		for n := max(first-2, 0); n <= first+3; n++ {
			s := sign + strconv.FormatInt(n, 10) + "e" + strconv.Itoa(exp-len(fewer)+1)
			if got := read(numeral.Parse(s)); got.is(x, api.OK) {
				t.Errorf("Short(%x): %s, but %s is read as it", x, short, s)
				few(t, &wrong)
			}
		}
	}
}

// rising are decimal texts with their exact values, from the least one on.
func rising(r *rand.Rand, n int) []string {
	type valued struct {
		s string
		v *big.Rat
	}
	var all []valued
	add := func(s string) {
		v, ok := new(big.Rat).SetString(s)
		if ok {
			all = append(all, valued{s, v})
		}
	}
	for range n {
		s := chanceText(r)
		add(s)
		// Neighbours: the same with digits more, which are late ones.
		if !strings.Contains(s, "e") {
			if !strings.Contains(s, ".") {
				s += "."
			}
			add(s + strings.Repeat("0", r.Intn(40)) + strconv.Itoa(1+r.Intn(9)))
			add(s + strings.Repeat("9", 1+r.Intn(40)))
		}
	}
	for _, x := range []float64{1, 0.1, 1e10, least, 1 << 53, 0x1p-1022} {
		for _, s := range between(x, next(x)) {
			add(s)
		}
	}
	sort.SliceStable(all, func(i, j int) bool { return all[i].v.Cmp(all[j].v) < 0 })
	var out []string
	for _, x := range all {
		out = append(out, x.s)
	}
	return out
}

// P7.10: who is greater is not read as less.
func TestReadingRises(t *testing.T) {
	wrong := 0
	below, below32 := -inf, float32(-inf)
	texts := rising(rand.New(rand.NewSource(17)), 2500)
	negative := func(s string) bool { return strings.HasPrefix(s, "-") }
	for i, s := range texts {
		x, err := numeral.Parse(s)
		if err == api.ErrOver {
			x = inf
			if negative(s) {
				x = -inf
			}
		}
		if x < below {
			t.Errorf("%s is read as %x, but %s as %x", seen(texts[i-1]), below, seen(s), x)
			few(t, &wrong)
		}
		y, err := numeral.Parse32(s)
		if err == api.ErrOver {
			y = float32(inf)
			if negative(s) {
				y = -y
			}
		}
		if y < below32 {
			t.Errorf("%s is read as the single %x, but %s as %x", seen(texts[i-1]), below32, seen(s), y)
			few(t, &wrong)
		}
		below, below32 = x, y
	}
}
