package numeral_test

import (
	"math"
	"testing"

	"binnacle/api"
	"binnacle/numeral"
)

// P7.2: the shortest texts.
func TestShortTexts(t *testing.T) {
	for _, c := range []struct {
		x    float64
		want string
	}{
		{0.1, "1e-1"}, {123456, "1.23456e5"}, {least, "5e-324"}, {0, "0"}, {minus, "-0"}, {1, "1e0"}, {-1, "-1e0"}, {10, "1e1"}, {100, "1e2"}, {1000000, "1e6"}, {120, "1.2e2"}, {-0.00625, "-6.25e-3"}, {9.5, "9.5e0"}, {99, "9.9e1"}, {101, "1.01e2"},
		{next(0.3), "3.0000000000000004e-1"}, {1.0 / 3, "3.333333333333333e-1"}, {2.0 / 3, "6.666666666666666e-1"}, {math.Pi, "3.141592653589793e0"}, {1e23, "1e23"}, {next(1e23), "1.0000000000000001e23"}, {1e22, "1e22"}, {4.35, "4.35e0"},
		{most, "1.7976931348623157e308"}, {-most, "-1.7976931348623157e308"}, {prev(most), "1.7976931348623155e308"}, {0x1p-1022, "2.2250738585072014e-308"}, {0x1p-1022 - least, "2.225073858507201e-308"}, {0x2p-1074, "1e-323"}, {0x3p-1074, "1.5e-323"}, {0x4p-1074, "2e-323"}, {0x5p-1074, "2.5e-323"}, {-least, "-5e-324"},
		{1 << 53, "9.007199254740992e15"}, {1<<53 + 2, "9.007199254740994e15"}, {1<<53 - 1, "9.007199254740991e15"}, {next(1), "1.0000000000000002e0"}, {prev(1), "9.999999999999999e-1"}, {0x1p70, "1.1805916207174113e21"}, {0x1p-44, "5.684341886080802e-14"}, {5e-324 * 9, "4.4e-323"},
		{inf, "+inf"}, {-inf, "-inf"}, {theNaN, "nan"},
		// Two texts lie as near: the one whose last digit is even.
		{1125899906842624.25, "1.1258999068426242e15"}, {1125899906842624.75, "1.1258999068426248e15"}, {-1125899906842625.25, "-1.1258999068426252e15"}, {-1125899906842625.75, "-1.1258999068426258e15"}, {140737488355328.125, "1.4073748835532812e14"}, {140737488355328.375, "1.4073748835532838e14"}, {70368744177664.125, "7.036874417766412e13"}, {70368744177664.875, "7.036874417766488e13"},
		// What is half way to a neighbour is read as this one, its mantissa being even: so a text may lie there.
		{2e23, "2e23"}, {0x1p89, "6.189700196426902e26"},
	} {
		if got := numeral.Short(c.x); got != c.want {
			t.Errorf("Short(%x): %s, want %s", c.x, got, c.want)
		}
	}
	for _, x := range nans() {
		if got := numeral.Short(x); got != "nan" {
			t.Errorf("Short of a NaN: %s", got)
		}
	}
}

func TestShort32Texts(t *testing.T) {
	for _, c := range []struct {
		x    float32
		want string
	}{
		{0.1, "1e-1"}, {123456, "1.23456e5"}, {least32, "1e-45"}, {-least32, "-1e-45"}, {0x2p-149, "3e-45"}, {0x3p-149, "4e-45"}, {0, "0"}, {float32(minus), "-0"}, {1, "1e0"}, {-10, "-1e1"}, {16777216, "1.6777216e7"}, {16777218, "1.6777218e7"}, {0.3, "3e-1"}, {1.0 / 3, "3.3333334e-1"},
		{most32, "3.4028235e38"}, {-most32, "-3.4028235e38"}, {0x1p-126, "1.1754944e-38"}, {0x1p-126 - least32, "1.1754942e-38"}, {math.Nextafter32(1, 2), "1.0000001e0"}, {math.Nextafter32(1, 0), "9.9999994e-1"}, {8.5e9, "8.5e9"},
		{2097152.25, "2.0971522e6"}, {2097152.75, "2.0971528e6"}, {2097153.25, "2.0971532e6"}, {2097153.75, "2.0971538e6"},
		{float32(inf), "+inf"}, {float32(-inf), "-inf"},
	} {
		if got := numeral.Short32(c.x); got != c.want {
			t.Errorf("Short32(%x): %s, want %s", c.x, got, c.want)
		}
	}
	for _, x := range nans32() {
		if got := numeral.Short32(x); got != "nan" {
			t.Errorf("Short32 of a NaN: %s", got)
		}
	}
}

// As few digits as can be, the nearest text of these, of two the even one: held against all texts that come near, and against the library.
func TestShortIsShortest(t *testing.T) {
	wrong := 0
	for _, x := range append(numbers(2000, 3), powers()...) {
		got := numeral.Short(x)
		if want := binary64.short(x); got != want || got != libraryShort(x, 64) {
			t.Errorf("Short(%x): %s, want %s", x, got, want)
			few(t, &wrong)
		}
		if back := read(numeral.Parse(got)); !back.is(x, api.OK) {
			t.Errorf("Short(%x): %s is read as %x", x, got, back)
			few(t, &wrong)
		}
	}
}

func TestShort32IsShortest(t *testing.T) {
	wrong := 0
	for _, x := range append(singles(4000, 4), powers32()...) {
		got := numeral.Short32(x)
		if want := binary32.short(float64(x)); got != want || got != libraryShort(float64(x), 32) {
			t.Errorf("Short32(%x): %s, want %s", x, got, want)
			few(t, &wrong)
		}
		if back, err := numeral.Parse32(got); !same32(back, x) || err != api.OK {
			t.Errorf("Short32(%x): %s is read as %x, %d", x, got, back, err)
			few(t, &wrong)
		}
	}
}
