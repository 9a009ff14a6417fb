package big

import "strings"

// Int is a whole number. No call changes one.
type Int struct {
	neg bool // not of 0
	mag nat
}

func intOf(neg bool, mag nat) Int {
	return Int{neg && len(mag) > 0, mag}
}

// Whole is a whole number of at most 64 bits, with a minus if neg.
func Whole(neg bool, mag uint64) Int {
	return intOf(neg, natOf(mag))
}

// Power is 2^n.
func Power(n int) Int {
	return Int{mag: natOf(1).left(n)}
}

// Read is the number of a whole number's text: decimal digits without zeros ahead, a minus ahead below 0; false, if the text is none.
func Read(text string) (Int, bool) {
	digits, neg := strings.CutPrefix(text, "-")
	if !plain(digits) || neg && digits == "0" {
		return Int{}, false
	}
	return intOf(neg, natRead(digits)), true
}

// plain tells whether digits are those of a number that isn't below 0, in its one way to be written.
func plain(digits string) bool {
	for i := range len(digits) {
		if digits[i] < '0' || digits[i] > '9' {
			return false
		}
	}
	return len(digits) == 1 || len(digits) > 1 && digits[0] != '0'
}

// Text is the whole number's text.
func (x Int) Text() string {
	if x.neg {
		return "-" + x.mag.text()
	}
	return x.mag.text()
}

// Sign is -1, 0 or 1.
func (x Int) Sign() int {
	switch {
	case len(x.mag) == 0:
		return 0
	case x.neg:
		return -1
	}
	return 1
}

// Bits is how many bits the amount has.
func (x Int) Bits() int { return x.mag.bits() }

// Neg is -x.
func (x Int) Neg() Int { return intOf(!x.neg, x.mag) }

// Plus is x + y.
func (x Int) Plus(y Int) Int {
	if x.neg == y.neg {
		return Int{x.neg, x.mag.plus(y.mag)}
	}
	if x.mag.compare(y.mag) < 0 {
		return Int{y.neg, y.mag.minus(x.mag)}
	}
	return intOf(x.neg, x.mag.minus(y.mag))
}

// Minus is x - y.
func (x Int) Minus(y Int) Int { return x.Plus(y.Neg()) }

// Times is x * y.
func (x Int) Times(y Int) Int {
	switch {
	case x.mag.isOne():
		return intOf(x.neg != y.neg, y.mag)
	case y.mag.isOne():
		return intOf(x.neg != y.neg, x.mag)
	}
	return intOf(x.neg != y.neg, x.mag.times(y.mag))
}

// Exact is x / y, of a y that divides x.
func (x Int) Exact(y Int) Int { return intOf(x.neg != y.neg, x.mag.exact(y.mag)) }

// Common is the least number that both x and y divide; both are above 0.
func Common(x, y Int) Int {
	if x.mag.compare(y.mag) == 0 || y.mag.isOne() {
		return x
	}
	divisor, _ := gcd(x.mag, y.mag, 0)
	return Int{mag: x.mag.exact(divisor).times(y.mag)}
}

// Coprime tells whether nothing but 1 divides both x and y; neither is 0.
func Coprime(x, y Int) bool {
	divisor, _ := gcd(x.mag, y.mag, 0)
	return divisor.isOne()
}
