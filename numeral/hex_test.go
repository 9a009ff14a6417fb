package numeral_test

import (
	"math/rand"
	"strings"
	"testing"

	"binnacle/api"
	"binnacle/numeral"
)

// P7.1: a number's text in powers of 2.
func TestHexTexts(t *testing.T) {
	for _, c := range []struct {
		x    float64
		want string
	}{
		{1, "0x1p0"}, {-1, "-0x1p0"}, {0, "0x0p0"}, {minus, "-0x0p0"}, {10, "0x1.4p3"}, {0.1, "0x1.999999999999ap-4"},
		{2, "0x1p1"}, {0.5, "0x1p-1"}, {1.5, "0x1.8p0"}, {-1.5, "-0x1.8p0"}, {17, "0x1.1p4"}, {257, "0x1.01p8"}, {3, "0x1.8p1"}, {15, "0x1.ep3"}, {0x1.fp0, "0x1.fp0"},
		{least, "0x1p-1074"}, {-least, "-0x1p-1074"}, {0x3p-1074, "0x1.8p-1073"}, {0x1p-1022, "0x1p-1022"}, {0x1p-1022 - least, "0x1.ffffffffffffep-1023"}, {0x1p-1023, "0x1p-1023"},
		{0x1p1023, "0x1p1023"}, {most, "0x1.fffffffffffffp1023"}, {-most, "-0x1.fffffffffffffp1023"}, {next(1), "0x1.0000000000001p0"}, {prev(1), "0x1.fffffffffffffp-1"}, {0x1.abcdef0123456p-7, "0x1.abcdef0123456p-7"}, {0x1.789p100, "0x1.789p100"},
		{inf, "+inf"}, {-inf, "-inf"}, {theNaN, "nan"},
	} {
		if got := numeral.Hex(c.x); got != c.want {
			t.Errorf("Hex(%x): %s, want %s", c.x, got, c.want)
		}
		if got := read(numeral.ParseHex(c.want)); !got.is(c.x, api.OK) {
			t.Errorf("ParseHex(%s): %x", c.want, got)
		}
	}
	for _, x := range nans() {
		if got := numeral.Hex(x); got != "nan" {
			t.Errorf("Hex of a NaN: %s", got)
		}
	}
}

// The text has the chapter's form and stands for the number: there is but one such.
func TestHexIsTheForm(t *testing.T) {
	wrong := 0
	for _, x := range append(numbers(30000, 1), powers()...) {
		text := numeral.Hex(x)
		if y, ok := hexValue(text); !ok || !same(x, y) {
			t.Errorf("Hex(%x): %s", x, text)
			few(t, &wrong)
		}
		if got := read(numeral.ParseHex(text)); !got.is(x, api.OK) {
			t.Errorf("ParseHex(%s): %x, want %x", text, got, x)
			few(t, &wrong)
		}
	}
}

func TestParseHexRefuses(t *testing.T) {
	for _, s := range []string{
		"", "-", "0x", "0x1", "0x1p", "0x1.p0", "0x1.0p0", "0x1.40p3", "0x1.4p03", "0x1.4p+3", "0x1.4p 3", "0x01p0", "0x1.4p3 ", " 0x1.4p3", "+0x1p0", "--0x1p0", "-+0x1p0",
		"0X1p0", "0x1P0", "0x1.Ap0", "0x1.ABp0", "0x2p0", "0xap0", "0x0.8p0", "0x1.8", "1p0", "1.4p3", "x1p0", "0x0p1", "0x0", "0x00p0", "0x0p00", "0x0p-0", "0x0.0p0", "-0x0p-0", "0x1p-0", "0x1p00", "0x1p-01",
		"0", "1", "-0", "10", "0.1", "1e-1", "0x", "p0", "0xp0", "0x.8p0", "0x1,8p0", "0x1_8p0", "0x1.8_0p0", "0x1.8.8p0", "0x1.8p1p1", "0x1.8p1.0", "0x1.gp0", "0x1.8p0x1", "0x0x1p0",
		"0x1p1024", "-0x1p1024", "0x1p-1075", "0x1.8p-1074", "0x1.8p1024", "0x1.00000000000001p0", "0x1.fffffffffffff8p1023", "0x1.fffffffffffffp1024", "0x1.fffffffffffffp-1023", "0x1.fffffffffffffp-1074", "0x1.0000000000001p-1074", "0x1.00000000000000000001p0", "0x1.ffffffffffffffffffffp0",
		"0x1p99999", "0x1p-99999", "0x1p9223372036854775807", "0x1p9223372036854775808", "0x1p-9223372036854775808", "0x1p-9223372036854775809", "0x1.8p-9223372036854775808", "0x1p18446744073709551616", "0x1p4294967296", "0x1p-4294967296", "0x1p2147483648", "0x1.fffp-2147483648", "0x1p99999999999999999999999999",
		"NaN", "NAN", "-nan", "+nan", "nan ", " nan", "nan0", "inf", "Inf", "+Inf", "-Inf", "INF", "+infinity", "infinity", "+in", "--inf", "+-inf", "-inf ",
		"\x80", "0x1\x80p0", "0x1p0\xff", "0x1p0\x00", "\x000x1p0", "0x1p٣", "0x1.٣p0", "０x1p0", "−0x1p0", "0x1p−1", "0x1p0\n", "0x1\u200bp0", "0x1.8p0\u00a0",
	} {
		if got := read(numeral.ParseHex(s)); !got.refused(api.ErrNumeral) {
			t.Errorf("ParseHex(%q): %x", s, got)
		}
	}
}

// Texts that are nearly right are read just if they are right.
func TestParseHexOfSpoiltTexts(t *testing.T) {
	r := rand.New(rand.NewSource(2))
	wrong, right := 0, 0
	for range 40000 {
		s := numeral.Hex(chance(r))
		for range 1 + r.Intn(2) {
			s = spoilt(r, s)
		}
		x, ok := hexValue(s)
		want := api.ErrNumeral
		if ok {
			want = api.OK
			right++
		}
		if got := read(numeral.ParseHex(s)); !got.is(x, want) {
			t.Errorf("ParseHex(%q): %x, want %x, %d", s, got, x, want)
			few(t, &wrong)
		}
	}
	if right < 1000 {
		t.Errorf("only %d texts were right", right)
	}
}

// MaxNumeral bytes and one more.
func TestParseHexLong(t *testing.T) {
	for _, s := range []string{"0x1." + strings.Repeat("1", 1994) + "p0", "0x1p" + strings.Repeat("1", 1996), strings.Repeat("0", 2000), strings.Repeat(" ", 2000), strings.Repeat("\xff", 2000), "0x1." + strings.Repeat("0", 1994) + "p0"} {
		if got := read(numeral.ParseHex(s)); len(s) != 2000 || !got.refused(api.ErrNumeral) {
			t.Errorf("ParseHex of %d bytes, %s: %x", len(s), seen(s), got)
		}
		for _, long := range []string{s + "0", "-" + s, s + s, s + strings.Repeat("1", 100000), "é" + s[1:]} {
			if got := read(numeral.ParseHex(long)); !got.refused(api.ErrLong) {
				t.Errorf("ParseHex of %d bytes, %s: %x", len(long), seen(long), got)
			}
		}
	}
}
