package eft_test

import (
	"math"
	"testing"

	"binnacle/api"
	"binnacle/eft"
)

// calls are all that take one expansion, each with its answer as a list.
func calls() map[string]func(e []float64) listed {
	return map[string]func(e []float64) listed{
		"Grow":       func(e []float64) listed { return list(eft.Grow(e, 1)) },
		"Add":        func(e []float64) listed { return list(eft.Add(e, []float64{1})) },
		"Add behind": func(e []float64) listed { return list(eft.Add([]float64{1}, e)) },
		"Scale":      func(e []float64) listed { return list(eft.Scale(e, 3)) },
		"Scale by 0": func(e []float64) listed { return list(eft.Scale(e, 0)) },
		"Compress":   func(e []float64) listed { return list(eft.Compress(e)) },
		"Sign": func(e []float64) listed {
			s, err := eft.Sign(e)
			return told(float64(s), err)
		},
		"Value": func(e []float64) listed {
			v, err := eft.Value(e)
			return told(v, err)
		},
	}
}

// told is a number as a list: none, if it is +0.
func told(x float64, err api.Errno) listed {
	if same(x, 0) {
		return listed{nil, err}
	}
	return listed{[]float64{x}, err}
}

// set is a copy of a list with another number at a place.
func set(l []float64, at int, x float64) []float64 {
	out := append([]float64(nil), l...)
	out[at] = x
	return out
}

// P4.3 to P4.6: what is no expansion is refused by its first error, zero values beside it.
func TestNoExpansion(t *testing.T) {
	type sample struct {
		e   []float64
		err api.Errno
	}
	var samples []sample
	for _, e := range noExpansions() {
		samples = append(samples, sample{e, api.ErrExpansion})
	}
	for _, x := range notFinite() {
		samples = append(samples,
			sample{[]float64{x}, api.ErrNumber},
			sample{[]float64{1, x}, api.ErrNumber},
			sample{[]float64{x, 2, 4}, api.ErrNumber},
			sample{[]float64{0, 0, x}, api.ErrNumber},              // ahead of ErrExpansion
			sample{set(make([]float64, 65), 64, x), api.ErrNumber}, // and of ErrLong
			sample{set(powers(65, 1, 0), 0, x), api.ErrNumber})
	}
	samples = append(samples,
		sample{powers(65, 1, 0), api.ErrLong},
		sample{powers(65, 30, -1000), api.ErrLong},
		sample{make([]float64, 65), api.ErrLong}, // ahead of ErrExpansion
		sample{make([]float64, 100000), api.ErrLong})
	for name, call := range calls() {
		for _, s := range samples {
			if got := call(s.e); !got.refused(s.err) {
				t.Errorf("%s of %d numbers from %x on: %x, not %d", name, len(s.e), s.e[0], got, s.err)
			}
		}
	}
}

func TestErrorsInOrder(t *testing.T) {
	small := powers(64, 2, -100)
	// With 2^970 more all numbers stay, and the last sum overflows: not finite, and 65 numbers.
	high := set(powers(64, 2, 0), 63, most)
	// 64 numbers of 30 digits, one beside the other: none goes into the next one, and products have 53 digits more.
	long := make([]float64, 64)
	for i := range long {
		long[i] = math.Ldexp(1<<29+1, 30*i-1000)
	}
	mid := 1 + 0x1p-52
	for _, c := range []struct {
		name string
		got  listed
		err  api.Errno
	}{
		{"Grow: b", list(eft.Grow([]float64{1}, inf)), api.ErrNumber},
		{"Grow: b to nothing", list(eft.Grow(nil, math.NaN())), api.ErrNumber},
		{"Grow: e, then b", list(eft.Grow([]float64{1, 1}, inf)), api.ErrExpansion},
		{"Grow: long e, then b", list(eft.Grow(powers(65, 1, 0), inf)), api.ErrLong},
		{"Grow: over", list(eft.Grow([]float64{most}, most)), api.ErrOver},
		{"Grow: over by half a digit", list(eft.Grow([]float64{most}, 0x1p970)), api.ErrOver},
		{"Grow: over, below", list(eft.Grow([]float64{-1, -most}, -0x1p970)), api.ErrOver},
		{"Grow: long", list(eft.Grow(powers(64, 2, 0), 0x1p500)), api.ErrLong},
		{"Grow: long, in front", list(eft.Grow(long, 0x1p-1074)), api.ErrLong},
		{"Grow: over, then long", list(eft.Grow(high, 0x1p970)), api.ErrOver},
		{"Add: first e", list(eft.Add([]float64{1, 1}, []float64{inf})), api.ErrExpansion},
		{"Add: first e, long", list(eft.Add(powers(65, 1, 0), []float64{inf})), api.ErrLong},
		{"Add: first e, no number", list(eft.Add([]float64{inf}, powers(65, 1, 0))), api.ErrNumber},
		{"Add: then f", list(eft.Add([]float64{most}, []float64{1, 1})), api.ErrExpansion},
		{"Add: f ahead of what comes", list(eft.Add([]float64{most}, []float64{most, inf})), api.ErrNumber},
		{"Add: over", list(eft.Add([]float64{1, most}, []float64{1, 0x1p970})), api.ErrOver},
		{"Add: long on the way", list(eft.Add(long, []float64{0x1p-1074, -long[63]})), api.ErrLong},
		{"Add: the first that is refused", list(eft.Add(set(long, 63, most), []float64{0x1p-1074, 0x1p970})), api.ErrLong},
		{"Add: over ahead of long", list(eft.Add(high, []float64{0x1p970})), api.ErrOver},
		{"Scale: b", list(eft.Scale([]float64{1}, -inf)), api.ErrNumber},
		{"Scale: b of nothing", list(eft.Scale(nil, math.NaN())), api.ErrNumber},
		{"Scale: e, then b", list(eft.Scale([]float64{2, 1}, math.NaN())), api.ErrExpansion},
		{"Scale: e, then lost", list(eft.Scale([]float64{0x1p-1074, 0x1p-1074}, 0.5)), api.ErrExpansion},
		{"Scale: only the first is lost", list(eft.Scale([]float64{0.5, 1, 2}, 0x1p-1074)), api.ErrLost},
		{"Scale: lost, then over", list(eft.Scale([]float64{0x1p-1074, 0x1p1000}, 0.75)), api.ErrLost},
		{"Scale: over at the end", list(eft.Scale([]float64{1, 0x1p1000}, 3)), api.ErrOver},
		{"Scale: long", list(eft.Scale(long, mid)), api.ErrLong},
		{"Scale: over, then long", list(eft.Scale(long, mid*0x1p200)), api.ErrOver},
		{"Scale: lost, then long", list(eft.Scale(long, mid*0x1p-200)), api.ErrLost},
		{"Scale: as many as may be", list(eft.Scale(small, 3)), api.OK},
		{"Compress: over", list(eft.Compress([]float64{0x1p970, most})), api.ErrOver},
		{"Compress: over, below", list(eft.Compress([]float64{1, -0x1p970, -most})), api.ErrOver},
	} {
		if c.got.err != c.err || c.err != api.OK && c.got.l != nil {
			t.Errorf("%s: %x, not %d", c.name, c.got, c.err)
		}
	}
}

// Lists of MaxExpansion numbers are taken, and answered.
func TestAsLongAsMayBe(t *testing.T) {
	e := powers(64, 30, -900)
	for name, got := range map[string]listed{
		"Grow by 0":            list(eft.Grow(e, 0)),
		"Add nothing":          list(eft.Add(e, nil)),
		"Add to nothing":       list(eft.Add(nil, e)),
		"Grow one of 63":       list(eft.Grow(e[:63], e[63])),
		"Add one of 63":        list(eft.Add(e[:63], e[63:])),
		"Add 63 to one":        list(eft.Add(e[63:], e[:63])),
		"Scale by 1":           list(eft.Scale(e, 1)),
		"Compress":             list(eft.Compress(e)),
		"one goes, one comes":  list(eft.Add(set(e, 0, -0x1p-950), []float64{0x1p-950, 0x1p-900})),
		"all but one, then it": list(eft.Add(e[:63], []float64{0x1p990})),
	} {
		want := compressed(e)
		if name != "Compress" {
			got = list(eft.Compress(got.l))
		}
		if !got.is(want) || got.err != api.OK {
			t.Errorf("%s: %x", name, got)
		}
	}
	if got := list(eft.Grow(e, -e[0])); got.err != api.OK || whyNot(got.l) != api.OK || total(got.l...).Cmp(total(e[1:]...)) != 0 {
		t.Errorf("Grow that takes one away: %x", got)
	}
}

// P4.7: a number that isn't finite, at each place.
func TestSignsOfNoNumbers(t *testing.T) {
	for _, x := range notFinite() {
		for at := range 6 {
			for _, v := range []float64{0, 1, most} {
				p := [6]float64{v, v, v, v, v, v}
				p[at] = x
				if s, err := turned(p); s != 0 || err != api.ErrNumber {
					t.Errorf("Turn(%x): %d, %d", p, s, err)
				}
				if at >= 4 {
					continue
				}
				if s, err := eft.Det(p[0], p[1], p[2], p[3]); s != 0 || err != api.ErrNumber {
					t.Errorf("Det(%x): %d, %d", p[:4], s, err)
				}
			}
		}
	}
}
