package numeral_test

import (
	"math"
	"math/rand"
	"strings"
	"testing"

	"binnacle/api"
	"binnacle/numeral"
)

const maxTime = 1 << 50

// P7.5: times as texts, and back.
func TestTimeTexts(t *testing.T) {
	for _, c := range []struct {
		n    int64
		want string
	}{
		{12000345, "12.000345"}, {-1, "-0.000001"}, {0, "0.000000"}, {1, "0.000001"}, {999999, "0.999999"}, {-999999, "-0.999999"}, {1000000, "1.000000"}, {-1000000, "-1.000000"}, {1000001, "1.000001"}, {-1000001, "-1.000001"}, {-999999999, "-999.999999"}, {10, "0.000010"}, {123456, "0.123456"}, {-100000, "-0.100000"}, {-500000, "-0.500000"}, {3600000000, "3600.000000"}, {1000000000000, "1000000.000000"}, {10100000, "10.100000"},
		{maxTime, "1125899906.842624"}, {-maxTime, "-1125899906.842624"}, {maxTime - 1, "1125899906.842623"}, {1 - maxTime, "-1125899906.842623"},
	} {
		if got, err := numeral.Time(c.n); got != c.want || err != api.OK {
			t.Errorf("Time(%d): %s, %d", c.n, got, err)
		}
		if got, err := numeral.ParseTime(c.want); got != c.n || err != api.OK {
			t.Errorf("ParseTime(%s): %d, %d", c.want, got, err)
		}
	}
}

func TestTimeRange(t *testing.T) {
	for _, n := range []int64{maxTime + 1, -maxTime - 1, maxTime + 1000000, -maxTime - 1000000, 1 << 62, -1 << 62, math.MaxInt64, math.MinInt64, math.MinInt64 + 1, 1<<51 - 1} {
		if got, err := numeral.Time(n); got != "" || err != api.ErrRange {
			t.Errorf("Time(%d): %q, %d", n, got, err)
		}
	}
}

func TestTimesByChance(t *testing.T) {
	wrong := 0
	r := rand.New(rand.NewSource(9))
	for range 20000 {
		n := r.Int63n(maxTime+1) >> r.Intn(51)
		if r.Intn(2) == 0 {
			n = -n
		}
		text, err := numeral.Time(n)
		if text != timeText(n) || err != api.OK {
			t.Errorf("Time(%d): %q, %d", n, text, err)
			few(t, &wrong)
		}
		if back, err := numeral.ParseTime(text); back != n || err != api.OK {
			t.Errorf("ParseTime(%s): %d, %d", text, back, err)
			few(t, &wrong)
		}
	}
}

func TestParseTimeRefuses(t *testing.T) {
	for _, s := range []string{
		"", "-", ".", "0", "1", "0.5", "-0.000000", "00.000001", "1.0000000", "0.00000", ".000001", "-.000001", "1.", "1.5", "01.000000", "-01.000000", "-00.000001", "+1.000000", "+0.000000", "--1.000000", "1.-00001", "1.+00001", "1.00000-", "1e0.00000", "0.1e0000", "0000001", "0000000", "1000000", "-1000000", "1000000.", "1.000000.", "1..000000", ".1000000", "1.0.00000", "1.000.000", "1,000000", "1 000000", " 1.000000", "1.000000 ", "- 1.000000", "1.000000\n", "\t1.000000", "1.00000a", "a.000000", "0x1.000000", "1.00000\x80", "\xff1.000000", "1.000000\x00", "1.00000٣", "１.000000", "−1.000000", "1．000000", "nan", "+inf", "-inf", "1_0.000000",
		"1125899906.842625", "-1125899906.842625", "1125899907.000000", "2251799813.685248", "9223372036854.775807", "-9223372036854.775808", "9223372036854.775808", "18446744073709.551616", "18446744073709.551617", "99999999999999999999999999.000000", "-99999999999999999999999999.000000", "1125899906842624.000000", strings.Repeat("1", 1990) + ".000000",
	} {
		if got, err := numeral.ParseTime(s); got != 0 || err != api.ErrNumeral {
			t.Errorf("ParseTime(%q): %d, %d", seen(s), got, err)
		}
	}
}

func TestParseTimeOfSpoiltTexts(t *testing.T) {
	wrong, right := 0, 0
	r := rand.New(rand.NewSource(10))
	for range 30000 {
		s := timeText((r.Int63n(2*maxTime+1) - maxTime) >> r.Intn(50))
		for range 1 + r.Intn(2) {
			s = spoilt(r, s)
		}
		n, ok := timeValue(s)
		want := api.ErrNumeral
		if ok {
			want = api.OK
			right++
		}
		if got, err := numeral.ParseTime(s); got != n || err != want {
			t.Errorf("ParseTime(%q): %d, %d, want %d, %d", s, got, err, n, want)
			few(t, &wrong)
		}
	}
	if right < 500 {
		t.Errorf("only %d texts were right", right)
	}
}

// MaxNumeral bytes and one more.
func TestParseTimeLong(t *testing.T) {
	for _, fill := range []string{"0", "9", ".", "\xff", " "} {
		s := strings.Repeat(fill, 2000)
		if got, err := numeral.ParseTime(s); got != 0 || err != api.ErrNumeral {
			t.Errorf("ParseTime of %d bytes: %d, %d", len(s), got, err)
		}
		for _, long := range []string{s + "0", "-" + s, s + s, s[7:] + "1.000000"} {
			if got, err := numeral.ParseTime(long); got != 0 || err != api.ErrLong {
				t.Errorf("ParseTime of %d bytes: %d, %d", len(long), got, err)
			}
		}
	}
}
