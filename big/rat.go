package big

// Rat is a fraction, in lowest terms or not. No call changes one.
type Rat struct {
	above Int
	below Int // above 0
}

// Ratio is the fraction above / below, of a below that isn't 0.
func Ratio(above, below Int) Rat {
	if below.neg {
		return Rat{above.Neg(), below.Neg()}
	}
	return Rat{above, below}
}

// Above is what stands above the stroke.
func (f Rat) Above() Int { return f.above }

// Below is what stands below it: a number above 0.
func (f Rat) Below() Int { return f.below }

// Sign is -1, 0 or 1.
func (f Rat) Sign() int { return f.above.Sign() }

// Plus is f + g.
func (f Rat) Plus(g Rat) Rat {
	below := Common(f.below, g.below)
	return Rat{f.over(below).Plus(g.over(below)), below}
}

// Minus is f - g.
func (f Rat) Minus(g Rat) Rat { return f.Plus(Rat{g.above.Neg(), g.below}) }

// over is what stands above the stroke if below, which f's own below divides, stands below it.
func (f Rat) over(below Int) Int { return f.above.Times(below.Exact(f.below)) }

// Times is f * g.
func (f Rat) Times(g Rat) Rat { return Rat{f.above.Times(g.above), f.below.Times(g.below)} }

// Over is f / g, of a g that isn't 0.
func (f Rat) Over(g Rat) Rat { return Ratio(f.above.Times(g.below), f.below.Times(g.above)) }

// Compare is -1, 0 or 1: whether f is below g, as much, or above it.
func (f Rat) Compare(g Rat) int {
	if f.below.mag.compare(g.below.mag) == 0 {
		return f.above.Minus(g.above).Sign()
	}
	return f.above.Times(g.below).Minus(g.above.Times(f.below)).Sign()
}

// Lowest is the fraction in lowest terms; false, if it has more than most bits above or below then.
func (f Rat) Lowest(most int) (Rat, bool) {
	if f.Sign() == 0 {
		return Rat{below: Whole(false, 1)}, true
	}
	// Where the most bits are too many, what divides both must take off at least those: if it can't, nobody need know it.
	surplus := max(f.above.Bits(), f.below.Bits()) - most
	divisor, found := gcd(f.above.mag, f.below.mag, surplus)
	if !found {
		return Rat{}, false
	}
	out := Rat{Int{f.above.neg, f.above.mag.exact(divisor)}, Int{mag: f.below.mag.exact(divisor)}}
	return out, out.above.Bits() <= most && out.below.Bits() <= most
}

// Rough is the amount of a fraction that isn't 0 as mag * 2^exp, cut off behind some 62 bits; the last bit of mag, behind these, is set if there was something to cut off. So it is rounded to fewer bits as the fraction itself.
func (f Rat) Rough() (mag uint64, exp int) {
	const first = 62
	lift := first - f.above.Bits() + f.below.Bits()
	quotient, left := f.above.mag.left(max(lift, 0)).over(f.below.mag.left(max(-lift, 0)))
	mag = quotient[0] << 1
	if len(left) > 0 {
		mag |= 1
	}
	return mag, -lift - 1
}
