package numeral

import (
	"math"
	"sort"
	"strconv"
	"strings"

	"binnacle/anatomy"
	"binnacle/api"
	"binnacle/dyad"
)

// The special texts.
const (
	textNaN   = "nan"
	textAbove = "+inf"
	textBelow = "-inf"
)

// specialText is that of a number that isn't finite.
func specialText(x float64) string {
	switch {
	case math.IsInf(x, 1):
		return textAbove
	case math.IsInf(x, -1):
		return textBelow
	}
	return textNaN
}

// special is a special text's number.
func special(s string) (float64, bool) {
	switch s {
	case textNaN:
		return anatomy.Canon(math.NaN()), true
	case textAbove:
		return math.Inf(1), true
	case textBelow:
		return math.Inf(-1), true
	}
	return 0, false
}

// decimal is digits, of which the last one is worth 10^exp. The first digit isn't 0: so 0 has none.
type decimal struct {
	neg    bool
	digits string
	exp    int
}

// parse reads a text for a rounding of dyads.
func parse[F float32 | float64](s string, round func(api.Dyad, int) (F, api.Errno)) (F, api.Errno) {
	if len(s) > api.MaxNumeral {
		return 0, api.ErrLong
	}
	if x, ok := special(s); ok {
		return F(x), api.OK
	}
	d, ok := decimalOf(s)
	if !ok {
		return 0, api.ErrNumeral
	}
	x := near(d, round)
	if math.IsInf(float64(x), 0) {
		return 0, api.ErrOver
	}
	return x, api.OK
}

// decimalOf is what a decimal text says; false, if the text is none.
func decimalOf(s string) (decimal, bool) {
	body, neg := strings.CutPrefix(s, "-")
	mantissa, power, powered := strings.Cut(body, "e")
	ahead, behind, pointed := strings.Cut(mantissa, ".")
	power, low := strings.CutPrefix(power, "-")
	if !isCount(ahead) || pointed && !isCount(behind) || powered && !isCount(power) {
		return decimal{}, false
	}
	// From so far out no text has the digits to come back to where numbers are: further out makes no difference.
	const far = 2 * api.MaxNumeral
	n, _ := count(power)
	exp := int(min(n, far))
	if low {
		exp = -exp
	}
	return decimal{neg: neg, digits: strings.TrimLeft(ahead+behind, "0"), exp: exp - len(behind)}, true
}

// isCount tells whether a text is one decimal digit or more.
func isCount(s string) bool {
	_, ok := count(s)
	return ok
}

// count is what decimal digits count, or MaxTime, if that is less; false, if there are none, or not only digits.
func count(s string) (n int64, ok bool) {
	ok = s != ""
digits:
	for _, r := range s {
		switch {
		case '0' <= r && r <= '9':
			n = min(10*n+int64(r-'0'), api.MaxTime)
		default:
			ok = false
			break digits
		}
	}
	return n, ok
}

// near is the number nearest to a decimal, or an infinite one.
func near[F float32 | float64](d decimal, round func(api.Dyad, int) (F, api.Errno)) F {
	x, _ := round(d.amount(), api.ModeNear)
	if d.neg {
		return F(math.Copysign(float64(x), -1))
	}
	return x
}

// amount is a dyad to which the same numbers are near as to the decimal, its sign aside.
func (d decimal) amount() api.Dyad {
	// 10^exp is 5^exp * 2^exp.
	words, low := wordsOf(d.digits), 0
	if d.exp >= 0 {
		words = multiplied(words, 5, d.exp)
	} else {
		words, low = divided(words, 5, -d.exp)
	}
	a, _ := dyad.Make(false, words, d.exp-low)
	return a
}

// exactly is a finite number in decimal digits, without zeros at their end.
func exactly(p api.Parts) decimal {
	words := []uint32{uint32(p.Mant), uint32(p.Mant >> wordBits)}
	if p.Exp >= 0 {
		words = multiplied(words, 2, p.Exp)
	} else {
		// m / 2^n is m * 5^n / 10^n.
		words = multiplied(words, 5, -p.Exp)
	}
	all := digitsOf(words)
	digits := strings.TrimRight(all, "0")
	return decimal{neg: p.Neg, digits: digits, exp: min(p.Exp, 0) + len(all) - len(digits)}
}

// shortest is the decimal with the fewest digits that is read as the same number as the exact one.
func shortest(exact decimal, reads func(decimal) bool) decimal {
	// As many digits tell any two numbers apart.
	const enough = 17
	if exact.digits == "" {
		return exact
	}
	// What is read again with some digits is so with one more, be it a 0: so their count is sought by halves.
	most := min(len(exact.digits), enough)
	n := 1 + sort.Search(most-1, func(i int) bool {
		_, ok := exact.within(1+i, reads)
		return ok
	})
	d, _ := exact.within(n, reads)
	return d
}

// within is the decimal of n digits nearest to an exact one, among those that are read as the same number. The one next to it below and the one above are all that need be asked: if they aren't read so, none is that lies further off.
func (d decimal) within(n int, reads func(decimal) bool) (decimal, bool) {
	below, rest := d.cut(n)
	if rest == "" {
		return d, true
	}
	nearer, other := below, below.next()
	// The rest has no zeros at its end: so 5 alone is just a half.
	if odd := below.digits[n-1]%2 == 1; rest > "5" || rest == "5" && odd {
		nearer, other = other, nearer
	}
	if reads(nearer) {
		return nearer, true
	}
	return other, reads(other)
}

// cut is the first n digits, and the digits that are left.
func (d decimal) cut(n int) (decimal, string) {
	rest := d.digits[n:]
	return decimal{neg: d.neg, digits: d.digits[:n], exp: d.exp + len(rest)}, rest
}

// next is one more at the last digit, without zeros at its end.
func (d decimal) next() decimal {
	kept := strings.TrimRight(d.digits, "9")
	exp := d.exp + len(d.digits) - len(kept)
	if kept == "" {
		return decimal{neg: d.neg, digits: "1", exp: exp}
	}
	last := len(kept) - 1
	return decimal{neg: d.neg, digits: kept[:last] + string(rune(kept[last]+1)), exp: exp}
}

func (d decimal) shortForm() string {
	var b strings.Builder
	if d.neg {
		b.WriteByte('-')
	}
	if d.digits == "" {
		b.WriteByte('0')
		return b.String()
	}
	b.WriteString(d.digits[:1])
	if len(d.digits) > 1 {
		b.WriteByte('.')
		b.WriteString(d.digits[1:])
	}
	b.WriteByte('e')
	b.WriteString(strconv.Itoa(d.exp + len(d.digits) - 1))
	return b.String()
}

func (d decimal) fullForm() string {
	var b strings.Builder
	if d.neg {
		b.WriteByte('-')
	}
	ahead := len(d.digits) + d.exp
	if ahead <= 0 {
		b.WriteByte('0')
	}
	switch {
	case d.exp >= 0:
		b.WriteString(d.digits)
		b.WriteString(strings.Repeat("0", d.exp))
	case ahead <= 0:
		b.WriteByte('.')
		b.WriteString(strings.Repeat("0", -ahead))
		b.WriteString(d.digits)
	default:
		b.WriteString(d.digits[:ahead])
		b.WriteByte('.')
		b.WriteString(d.digits[ahead:])
	}
	return b.String()
}
