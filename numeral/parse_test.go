package numeral_test

import (
	"math"
	"math/big"
	"math/rand"
	"strconv"
	"strings"
	"testing"

	"binnacle/api"
	"binnacle/numeral"
)

// checkParse holds both readers against the chapter's words.
func checkParse(t *testing.T, s string, wrong *int) {
	t.Helper()
	if got := read(numeral.Parse(s)); !binary64.parsed(s, got) {
		t.Errorf("Parse(%q): %x", seen(s), got)
		few(t, wrong)
	}
	if got := read32(numeral.Parse32(s)); !binary32.parsed(s, got) {
		t.Errorf("Parse32(%q): %x", seen(s), got)
		few(t, wrong)
	}
}

// P7.4: the number nearest to a text's exact value.
func TestParseTexts(t *testing.T) {
	nines := strings.Repeat("9", 50)
	for _, c := range []struct {
		s   string
		x   float64
		err api.Errno
	}{
		{"007.50e00", 7.5, api.OK}, {"-0", minus, api.OK}, {"0", 0, api.OK}, {"-0.000e5", minus, api.OK}, {"000", 0, api.OK}, {"0e0", 0, api.OK}, {"-0e-0", minus, api.OK}, {"1e400", 0, api.ErrOver}, {"-1e400", 0, api.ErrOver}, {"1e-400", 0, api.OK}, {"-1e-400", minus, api.OK},
		{"1", 1, api.OK}, {"-1", -1, api.OK}, {"10", 10, api.OK}, {"0.1", 0.1, api.OK}, {"1e-1", 0.1, api.OK}, {"100e-3", 0.1, api.OK}, {"0.001e2", 0.1, api.OK}, {"00000000000000000000000000.1", 0.1, api.OK}, {"1.50", 1.5, api.OK}, {"15e-1", 1.5, api.OK}, {"123456789012345678901234567890", 123456789012345678901234567890, api.OK}, {"1e22", 1e22, api.OK}, {"1e23", 1e23, api.OK}, {"8.5e-5", 8.5e-5, api.OK}, {"1e00023", 1e23, api.OK}, {"1e-0000", 1, api.OK}, {"5e-324", least, api.OK}, {"1.7976931348623157e308", most, api.OK},
		{"nan", theNaN, api.OK}, {"+inf", inf, api.OK}, {"-inf", -inf, api.OK},
		// Exponents far beyond what an int holds.
		{"1e" + nines, 0, api.ErrOver}, {"-1e" + nines, 0, api.ErrOver}, {"1e-" + nines, 0, api.OK}, {"-1e-" + nines, minus, api.OK}, {"0e" + nines, 0, api.OK}, {"-0e" + nines, minus, api.OK}, {"0.0e-" + nines, 0, api.OK}, {"1e18446744073709551616", 0, api.ErrOver}, {"1e18446744073709551617", 0, api.ErrOver}, {"1e-18446744073709551617", 0, api.OK}, {"1e4294967297", 0, api.ErrOver}, {"1e9223372036854775808", 0, api.ErrOver}, {"1e-9223372036854775809", 0, api.OK}, {"1e" + strings.Repeat("0", 1000) + "1", 10, api.OK}, {"1e-" + strings.Repeat("0", 1000) + "1", 0.1, api.OK},
		// Half way between two: the one whose fraction field is even; a late digit tells.
		{"9007199254740993", 9007199254740992, api.OK}, {"9007199254740995", 9007199254740996, api.OK}, {"9007199254740993.000000000000000000000000000000000000000001", 9007199254740994, api.OK}, {"9007199254740992.99999999999999999999999999999999999999999", 9007199254740992, api.OK}, {"-9007199254740993", -9007199254740992, api.OK}, {"9007199254740993" + strings.Repeat("0", 292), 9007199254740993e292, api.OK},
		{"1.00000000000000011102230246251565404236316680908203125", 1, api.OK}, {"1.00000000000000011102230246251565404236316680908203124", 1, api.OK}, {"1.00000000000000011102230246251565404236316680908203126", next(1), api.OK}, {"1.00000000000000011102230246251565404236316680908203125" + strings.Repeat("0", 1900) + "1", next(1), api.OK}, {"1.00000000000000033306690738754696212708950042724609375", next(next(1)), api.OK},
		// The last ones that aren't infinite, that aren't 0.
		{"1.797693134862315807e308", most, api.OK}, {"1.797693134862315808e308", 0, api.ErrOver}, {"1.7976931348623159e308", 0, api.ErrOver}, {"-1.797693134862315808e308", 0, api.ErrOver}, {"2.4703282292062327e-324", 0, api.OK}, {"2.4703282292062328e-324", least, api.OK}, {"-2.4703282292062327e-324", minus, api.OK}, {"7.4e-324", least, api.OK}, {"7.5e-324", 0x2p-1074, api.OK}, {"2.2250738585072011e-308", 0x1p-1022 - least, api.OK}, {"2.2250738585072012e-308", 0x1p-1022, api.OK},
		// Zeros on one side, the exponent on the other.
		{"0." + strings.Repeat("0", 1000) + "1e1001", 1, api.OK}, {"1" + strings.Repeat("0", 1000) + "e-1000", 1, api.OK}, {strings.Repeat("0", 1990) + "7", 7, api.OK}, {"0." + strings.Repeat("0", 1900) + "25e1903", 250, api.OK}, {strings.Repeat("9", 1900) + "e-1900", 1, api.OK}, {"-" + strings.Repeat("9", 1900) + "e-2300", minus, api.OK}, {strings.Repeat("9", 1900) + "e-1591", 0, api.ErrOver}, {"0." + strings.Repeat("0", 1900) + "1e1500", 0, api.OK},
	} {
		if got := read(numeral.Parse(c.s)); !got.is(c.x, c.err) {
			t.Errorf("Parse(%q): %x, want %x, %d", seen(c.s), got, c.x, c.err)
		}
	}
}

func TestParse32Texts(t *testing.T) {
	for _, c := range []struct {
		s   string
		x   float32
		err api.Errno
	}{
		{"16777217", 16777216, api.OK}, {"16777219", 16777220, api.OK}, {"16777217.0000000000000000000000000001", 16777218, api.OK}, {"0.1", 0.1, api.OK}, {"-0", float32(minus), api.OK}, {"1e39", 0, api.ErrOver}, {"1e400", 0, api.ErrOver}, {"-1e39", 0, api.ErrOver}, {"1e-50", 0, api.OK}, {"-1e-50", float32(minus), api.OK}, {"1e-400", 0, api.OK}, {"1e-45", least32, api.OK}, {"7e-46", 0, api.OK}, {"7.1e-46", least32, api.OK}, {"3.4028235e38", most32, api.OK}, {"3.4028235677973366e38", most32, api.OK}, {"3.4028235677973367e38", 0, api.ErrOver}, {"340282356779733661637539395458142568447", most32, api.OK}, {"340282356779733661637539395458142568448", 0, api.ErrOver}, {"1.1754943e-38", 0x1p-126, api.OK}, {"1.1754942e-38", 0x1p-126 - least32, api.OK},
		{"+inf", float32(inf), api.OK}, {"-inf", float32(-inf), api.OK}, {"007.50e00", 7.5, api.OK}, {"5.", 0, api.ErrNumeral},
		// Rounded to a number first they would lie half way between two singles, and go to the even one.
		{"1.000000178813934326171875000000000000000000000001", 1.00000024, api.OK}, {"1.00000017881393432617187499", 1.0000001, api.OK}, {"1.00000005960464477539062501", 1.0000001, api.OK}, {"16777217.000000000001", 16777218, api.OK}, {"16777218.999999999999", 16777218, api.OK}, {"-16777217.000000000001", -16777218, api.OK},
	} {
		if got, err := numeral.Parse32(c.s); !same32(got, c.x) || err != c.err {
			t.Errorf("Parse32(%q): %x, %d, want %x, %d", c.s, got, err, c.x, c.err)
		}
	}
	if got, err := numeral.Parse32("nan"); math.Float32bits(got) != 0x7fc00000 || err != api.OK {
		t.Errorf("Parse32(nan): %x, %d", math.Float32bits(got), err)
	}
}

func TestParseRefuses(t *testing.T) {
	for _, s := range []string{
		"", "-", ".", "-.", "e", "-e", ".5", "5.", "-.5", "-5.", "+5", "+0", "++5", "--5", "-+5", "+-5", "1E5", "1e", "1e-", "1e+5", "1e--5", "1e-+5", "1e5-", "e5", ".e5", "1.e5", ".1e5", "-e5", "1.5e", "1ee5", "1e5e5", "1e5.0", "1e.5", "1.5.5", "1..5", "1-5", "1 5", " 1", "1 ", "1. 5", "1e 5", "- 5", " ", "1\n", "\t1", "1,5", "1_000", "0x1p0", "0x10", "1p5", "1f", "a", "1a", "0b1", "1e5 ", "1e1_0",
		"inf", "Inf", "+Inf", "-Inf", "+INF", "infinity", "+infinity", "NaN", "NAN", "-nan", "+nan", "nan ", " nan", "+inf ", "nann", "+in", "nan1", "1nan", "1inf",
		"\x80", "1\x80", "\xff1", "1\x00", "\x00", "٣", "1٣", "１", "−5", "1e−5", "1．5", "1\u200b", "\u00a01", "½", "1.\xc3", "1e\xc3\xa9",
	} {
		if got := read(numeral.Parse(s)); !got.refused(api.ErrNumeral) {
			t.Errorf("Parse(%q): %x", s, got)
		}
		if got := read32(numeral.Parse32(s)); !got.refused(api.ErrNumeral) {
			t.Errorf("Parse32(%q): %x", s, got)
		}
	}
}

// MaxNumeral bytes and one more.
func TestParseLong(t *testing.T) {
	wrong := 0
	for _, c := range [][3]string{
		{"", "0", ""}, {"", "9", ""}, {"-", "9", "e-1950"}, {"", "7", "e-1990"}, {"", "9", "e-2310"}, {"1e", "9", ""}, {"1e-", "9", ""}, {"1e", "0", "2"}, {"0.", "0", "1e1990"}, {"0.", "0", "1e1700"}, {"1.", "3", ""},
		{".", "3", ""}, {"", "3", "."}, {"", "\xff", ""}, {" ", "1", ""}, {"", "1", "x"},
	} {
		s := c[0] + strings.Repeat(c[1], 2000-len(c[0])-len(c[2])) + c[2]
		checkParse(t, s, &wrong)
		for _, long := range []string{s + "0", "0" + s, "-" + s, s + s + s, s + strings.Repeat("x", 50000), "é" + s[1:]} {
			if got := read(numeral.Parse(long)); !got.refused(api.ErrLong) {
				t.Errorf("Parse of %d bytes, %q: %x", len(long), seen(long), got)
			}
			if got := read32(numeral.Parse32(long)); !got.refused(api.ErrLong) {
				t.Errorf("Parse32 of %d bytes, %q: %x", len(long), seen(long), got)
			}
		}
	}
}

// between is the exact text of what lies half way to the next number or single, and texts as near to it as there is room for.
func between(x, y float64) []string {
	half := new(big.Rat).SetFloat64(x)
	half.Add(half, new(big.Rat).SetFloat64(y)).Quo(half, big.NewRat(2, 1))
	text := strings.TrimRight(half.FloatString(1080), "0")
	ahead, _, _ := strings.Cut(text, ".")
	places := 1990 - len(ahead)
	tiny := new(big.Rat).SetFrac(big.NewInt(1), ten(places))
	out := []string{
		strings.TrimSuffix(text, "."),
		new(big.Rat).Add(half, tiny).FloatString(places),
		new(big.Rat).Sub(half, tiny).FloatString(places),
	}
	// The same by another exponent.
	digits := strings.TrimLeft(strings.Replace(text, ".", "", 1), "0")
	power := len(ahead) - len(strings.Replace(text, ".", "", 1))
	return append(out, digits+"e"+strconv.Itoa(power), digits+"1e"+strconv.Itoa(power-1), "-0."+digits+"e"+strconv.Itoa(power+len(digits)))
}

func TestParseHalfWay(t *testing.T) {
	wrong := 0
	r := rand.New(rand.NewSource(6))
	list := []float64{0, least, 0x2p-1074, 0x1p-1022, prev(0x1p-1022), 1, prev(1), 0.1, 1 << 53, prev(1 << 53), 1e22, 1e23, prev(most), 0x1p1023, prev(0x1p1023)}
	for range 150 {
		list = append(list, math.Abs(chance(r)))
	}
	for _, x := range list {
		for _, s := range between(x, next(x)) {
			checkParse(t, s, &wrong)
		}
	}
	for _, x := range []float32{0, least32, 0x1p-126, 1, 0.1, 16777216, 1e30, math.Nextafter32(most32, 0), float32(math.Abs(float64(chance32(r)))), 3e-40} {
		for _, s := range between(float64(x), float64(math.Nextafter32(x, most32))) {
			checkParse(t, s, &wrong)
		}
	}
	// Half way to what would follow the greatest ones.
	end := new(big.Int).Lsh(big.NewInt(1<<54-1), 970)
	end32 := new(big.Int).Lsh(big.NewInt(1<<25-1), 103)
	for _, n := range []*big.Int{end, end32} {
		less := new(big.Int).Sub(n, big.NewInt(1))
		for _, s := range []string{n.String(), "-" + n.String(), less.String(), less.String() + "." + strings.Repeat("9", 1000), n.String() + ".0", n.String() + "." + strings.Repeat("0", 1000) + "1"} {
			checkParse(t, s, &wrong)
		}
	}
}

// chanceText is some decimal text: any digits, zeros on any side, any exponent that matters.
func chanceText(r *rand.Rand) string {
	var b strings.Builder
	if r.Intn(3) == 0 {
		b.WriteString("-")
	}
	digits := func(n int) {
		for range n {
			b.WriteByte(byte('0' + r.Intn(10)))
		}
	}
	size := 1 + r.Intn(20)
	if r.Intn(10) == 0 {
		size = 1 + r.Intn(900)
	}
	b.WriteString(strings.Repeat("0", max(r.Intn(30)-20, 0)))
	digits(size)
	if r.Intn(2) == 0 {
		b.WriteString("." + strings.Repeat("0", max(r.Intn(60)-40, 0)))
		digits(1 + r.Intn(size))
		b.WriteString(strings.Repeat("0", max(r.Intn(30)-20, 0)))
	}
	if r.Intn(4) > 0 {
		exp := r.Intn(700) - 350
		if r.Intn(2) == 0 {
			exp = r.Intn(100) - 60
		}
		b.WriteString("e" + []string{"", "-", "-000", "0"}[r.Intn(4)] + strconv.Itoa(max(exp, -exp)))
	}
	return b.String()
}

func TestParseByChance(t *testing.T) {
	wrong := 0
	r := rand.New(rand.NewSource(7))
	for range 8000 {
		s := chanceText(r)
		checkParse(t, s, &wrong)
		// The library reads these as well.
		x, err := strconv.ParseFloat(s, 64)
		if got := read(numeral.Parse(s)); err == nil && !got.is(x, api.OK) || err != nil && !got.refused(api.ErrOver) {
			t.Errorf("Parse(%q): %x, want %x", seen(s), got, x)
			few(t, &wrong)
		}
	}
}

func TestParseOfSpoiltTexts(t *testing.T) {
	wrong := 0
	r := rand.New(rand.NewSource(8))
	for range 20000 {
		s := []string{"-12.5e-3", "0.1", "7", "1e5", "-0", "00.5e00", "nan", "+inf", "-inf", "123456.789e10"}[r.Intn(10)]
		for range 1 + r.Intn(2) {
			s = spoilt(r, s)
		}
		checkParse(t, s, &wrong)
	}
}
