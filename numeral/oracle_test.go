package numeral_test

import (
	"fmt"
	"math"
	"math/big"
	"regexp"
	"strconv"
	"strings"

	"binnacle/api"
)

// What is tested is held against the chapter's words, reckoned with the library's whole numbers and fractions.

// format says how numbers or singles lie beside one another.
type format struct {
	digits  int
	lowest  int // the exponent of the least one
	highest int // that of the greatest power of 2
}

var (
	binary64 = format{53, -1074, 1023}
	binary32 = format{24, -149, 127}
)

// shift is the exponent in which all that lies half way between two numbers is whole.
const shift = 1074 + 2

// span is a number's amount and the ends of what is nearest to it, in 2^-shift; the ends are so too, if even.
type span struct {
	low, x, high *big.Int
	even         bool
}

func units(m int64, e int) *big.Int {
	return new(big.Int).Lsh(big.NewInt(m), uint(e+shift))
}

// span is that of an amount that isn't 0.
func (f format) span(x float64) span {
	fraction, exp := math.Frexp(x)
	e := max(exp-f.digits, f.lowest)
	m := int64(math.Ldexp(fraction, 53)) >> (e - exp + 53)
	s := span{x: units(m, e), high: units(2*m+1, e-1), even: m%2 == 0}
	s.low = units(2*m-1, e-1)
	if m == 1<<(f.digits-1) && e > f.lowest {
		s.low = units(4*m-1, e-2)
	}
	return s
}

// holds tells whether the number is the one nearest to v / by.
func (s span) holds(v, by *big.Int) bool {
	low := v.Cmp(new(big.Int).Mul(s.low, by))
	high := v.Cmp(new(big.Int).Mul(s.high, by))
	return low > 0 && high < 0 || s.even && (low == 0 || high == 0)
}

func ten(n int) *big.Int {
	return new(big.Int).Exp(big.NewInt(10), big.NewInt(int64(n)), nil)
}

// amount is digits * 10^exp as a quotient of whole numbers, the upper one in 2^-shift.
func amount(digits *big.Int, exp int) (*big.Int, *big.Int) {
	above := new(big.Int).Lsh(digits, shift)
	if exp >= 0 {
		return above.Mul(above, ten(exp)), big.NewInt(1)
	}
	return above, ten(-exp)
}

// decimalForm is what the chapter calls a decimal text.
var decimalForm = regexp.MustCompile(`^(-?)([0-9]+)(?:\.([0-9]+))?(?:e(-?)([0-9]+))?$`)

// parsed tells whether an answer is right for a text, as numbers or as singles.
func (f format) parsed(s string, got number) bool {
	switch s {
	case "nan":
		return got.is(theNaN, api.OK)
	case "+inf":
		return got.is(inf, api.OK)
	case "-inf":
		return got.is(-inf, api.OK)
	}
	m := decimalForm.FindStringSubmatch(s)
	switch {
	case len(s) > 2000:
		return got.refused(api.ErrLong)
	case m == nil || m[0] != s:
		return got.refused(api.ErrNumeral)
	}
	digits, _ := new(big.Int).SetString(m[2]+m[3], 10)
	sign := 1.0
	if m[1] == "-" {
		sign = -1
	}
	exp := new(big.Int)
	if m[5] != "" {
		exp.SetString(m[4]+m[5], 10)
	}
	exp.Sub(exp, big.NewInt(int64(len(m[3]))))
	far := new(big.Int).Abs(exp).Cmp(big.NewInt(5000)) > 0
	switch {
	case digits.Sign() == 0, far && exp.Sign() < 0:
		return got.is(math.Copysign(0, sign), api.OK)
	case far:
		return got.refused(api.ErrOver)
	}
	return f.nearest(sign, digits, int(exp.Int64()), got)
}

func (f format) nearest(sign float64, digits *big.Int, exp int, got number) bool {
	v, by := amount(digits, exp)
	// The greatest number's neighbour would be a power of 2, were there one: half way to it the infinite ones begin.
	end := units(1<<(f.digits+1)-1, f.highest-f.digits)
	over := v.Cmp(end.Mul(end, by)) >= 0
	switch {
	case over || got.err != api.OK:
		return over && got.refused(api.ErrOver)
	case math.IsNaN(got.x), math.IsInf(got.x, 0), math.Signbit(got.x) != (sign < 0):
		return false
	case f == binary32 && float64(float32(got.x)) != got.x:
		return false
	case got.x == 0:
		return v.Cmp(new(big.Int).Mul(units(1, f.lowest-1), by)) <= 0
	}
	return f.span(math.Abs(got.x)).holds(v, by)
}

// short is a finite number's short form: of the texts with one digit, with two, and so on.
func (f format) short(x float64) string {
	sign := ""
	if math.Signbit(x) {
		sign = "-"
	}
	if x == 0 {
		return sign + "0"
	}
	s := f.span(math.Abs(x))
	_, exp := math.Frexp(x)
	top := int(math.Floor(float64(exp) * math.Log10(2)))
	for n := 1; n < 20; n++ {
		if digits, exp, ok := s.texts(n, top); ok {
			return sign + pointed(digits, exp)
		}
	}
	return "none"
}

// texts finds among digits * 10^exp with n digits those that are read again: the nearest one, of two the even one.
func (s span) texts(n, top int) (*big.Int, int, bool) {
	var best, off *big.Int
	at := 0
	// What is known of the exponent may be one off: then digits of a coarser step, or of too many, are left out.
	for exp := top - n; exp <= top-n+2; exp++ {
		unit, by := amount(big.NewInt(1), exp)
		x := new(big.Int).Mul(s.x, by)
		first := new(big.Int).Div(x, unit)
		for i := int64(-9); i <= 9; i++ {
			digits := new(big.Int).Add(first, big.NewInt(i))
			v := new(big.Int).Mul(digits, unit)
			if digits.Sign() <= 0 || len(digits.String()) != n || !s.holds(v, by) {
				continue
			}
			// In one unit for all exponents: 10^(top-n).
			far := v.Sub(v, x)
			far.Abs(far).Mul(far, ten(400)).Div(far, by)
			if best == nil || far.Cmp(off) < 0 || far.Cmp(off) == 0 && digits.Bit(0) == 0 {
				best, off, at = digits, far, exp
			}
		}
	}
	return best, at, best != nil
}

// pointed writes digits * 10^exp with a point behind the first digit.
func pointed(digits *big.Int, exp int) string {
	all := digits.String()
	some := strings.TrimRight(all, "0")
	if len(some) > 1 {
		some = some[:1] + "." + some[1:]
	}
	return some + "e" + strconv.Itoa(exp+len(all)-1)
}

// libraryShort is the library's shortest text in the chapter's form.
func libraryShort(x float64, bits int) string {
	text := strconv.FormatFloat(x, 'e', -1, bits)
	mantissa, power, _ := strings.Cut(text, "e")
	if x == 0 {
		return mantissa
	}
	exp, _ := strconv.Atoi(power)
	return mantissa + "e" + strconv.Itoa(exp)
}

// full is a finite number's exact value.
func full(x float64) string {
	text := new(big.Rat).SetFloat64(math.Abs(x)).FloatString(1074)
	text = strings.TrimRight(strings.TrimRight(text, "0"), ".")
	if math.Signbit(x) {
		return "-" + text
	}
	return text
}

// hexForm is what the chapter calls the hex form of a number other than 0.
var hexForm = regexp.MustCompile(`^(-?)0x1(?:\.([0-9a-f]*[1-9a-f]))?p(0|-?[1-9][0-9]*)$`)

// hexValue is the number of which a text is the hex form, if there is one.
func hexValue(s string) (float64, bool) {
	switch s {
	case "nan":
		return theNaN, true
	case "+inf":
		return inf, true
	case "-inf":
		return -inf, true
	case "0x0p0":
		return 0, true
	case "-0x0p0":
		return minus, true
	}
	m := hexForm.FindStringSubmatch(s)
	if m == nil || len(m[2]) > 13 || len(m[3]) > 5 {
		return 0, false
	}
	mant, _ := strconv.ParseInt("1"+m[2], 16, 64)
	exp, _ := strconv.Atoi(m[3])
	if exp < -1100 || exp > 1100 {
		return 0, false
	}
	v := new(big.Rat).SetFrac(units(mant, exp-4*len(m[2])+500), units(1, 500))
	y, exact := v.Float64()
	if !exact || y == 0 {
		return 0, false
	}
	if m[1] == "-" {
		y = -y
	}
	return y, true
}

// timeText is a time's text.
func timeText(t int64) string {
	sign := ""
	if t < 0 {
		sign, t = "-", -t
	}
	return fmt.Sprintf("%s%d.%06d", sign, t/1000000, t%1000000)
}

var timeForm = regexp.MustCompile(`^-?(0|[1-9][0-9]*)\.[0-9]{6}$`)

// timeValue is the time of which a text is the text, if there is one.
func timeValue(s string) (int64, bool) {
	if !timeForm.MatchString(s) || strings.HasSuffix(s, "\n") || s == "-0.000000" {
		return 0, false
	}
	t, _ := new(big.Int).SetString(strings.Replace(s, ".", "", 1), 10)
	if new(big.Int).Abs(t).Cmp(big.NewInt(1<<50)) > 0 {
		return 0, false
	}
	return t.Int64(), true
}
