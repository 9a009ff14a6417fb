package numeral_test

import (
	"strings"
	"testing"

	"binnacle/numeral"
)

// P7.3: the exact value.
func TestFullTexts(t *testing.T) {
	for _, c := range []struct {
		x    float64
		want string
	}{
		{0.5, "0.5"}, {-0x1p70, "-1180591620717411303424"}, {0, "0"}, {minus, "-0"}, {1, "1"}, {-1, "-1"}, {10, "10"}, {1000, "1000"}, {1e22, "10000000000000000000000"}, {1e23, "99999999999999991611392"}, {2.5, "2.5"}, {-12.125, "-12.125"}, {100.5, "100.5"}, {120, "120"}, {0x1p-10, "0.0009765625"}, {-0x1p-10, "-0.0009765625"}, {0.0625, "0.0625"}, {10.0625, "10.0625"},
		{0.1, "0.1000000000000000055511151231257827021181583404541015625"}, {1e9, "1000000000"}, {1e9 + 1, "1000000001"}, {1e18, "1000000000000000000"}, {999999999, "999999999"}, {1e9 + 0.5, "1000000000.5"}, {4294967296, "4294967296"},
		{0x1p-53, "0.00000000000000011102230246251565404236316680908203125"},
		{inf, "+inf"}, {-inf, "-inf"}, {theNaN, "nan"},
	} {
		if got := numeral.Full(c.x); got != c.want {
			t.Errorf("Full(%x): %s, want %s", c.x, got, c.want)
		}
	}
	for _, x := range nans() {
		if got := numeral.Full(x); got != "nan" {
			t.Errorf("Full of a NaN: %s", got)
		}
	}
	for x, length := range map[float64]int{least: 2 + 1074, -least: 3 + 1074, most: 309, -most: 310, 0x1p-1022: 2 + 1022, 0x1p1023: 308} {
		if got := numeral.Full(x); len(got) != length {
			t.Errorf("Full(%x) has %d bytes", x, len(got))
		}
	}
	if got := numeral.Full(least); !strings.HasPrefix(got, "0."+strings.Repeat("0", 323)+"49406564584124654417") || !strings.HasSuffix(got, "65533447265625") {
		t.Errorf("Full(2^-1074): %s", seen(got))
	}
}

func TestFullIsExact(t *testing.T) {
	wrong := 0
	for _, x := range append(numbers(4000, 5), powers()...) {
		if got, want := numeral.Full(x), full(x); got != want {
			t.Errorf("Full(%x): %s, want %s", x, got, want)
			few(t, &wrong)
		}
	}
}
