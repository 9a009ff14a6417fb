package sum_test

import (
	"math"
	"math/rand"
	"testing"

	"binnacle/api"
	"binnacle/sum"
)

// P5.8.
func TestMean(t *testing.T) {
	wrong := 0
	for _, l := range anyLists() {
		if got, want := told(sum.Mean(l)), mean(l); !got.is(want) || math.IsInf(got.x, 0) {
			t.Errorf("Mean of %d numbers %x: %x, not %x", len(l), brief(l), got, want)
			few(t, &wrong)
		}
	}
}

// halfWay is a list of n numbers whose mean is (odd / 2) * unit, exactly, and a little beside it.
func halfWay(n int, odd int64, unit, beside float64) []float64 {
	times, step := int64(n), unit/2
	if n%2 == 0 {
		times, step = times/2, unit // a subnormal unit has no half
	}
	l := make([]float64, n)
	l[0] = float64(times*(odd>>27)) * 0x1p27 * step
	l[1] = float64(times*(odd%(1<<27))) * step
	l[2] = beside
	return l
}

// Means of many counts, half way between two numbers and just beside that, of subnormals too.
func TestMeanHalfWay(t *testing.T) {
	r := rand.New(rand.NewSource(6))
	wrong, ties := 0, 0
	for n := 3; n <= 4096; n += 1 + n/9 {
		for _, unit := range []float64{0x1p-900, 0x1p-52, 1, 0x1p900, least} {
			k := 1<<52 + r.Int63n(1<<52)
			if unit == least {
				if k -= 1 << 52; n%2 == 1 {
					continue
				}
			}
			for _, beside := range []float64{0, least, -least, unit * 0x1p-30, -unit * 0x1p-30} {
				for _, sign := range []float64{1, -1} {
					l := halfWay(n, 2*k+1, unit*sign, beside)
					got, want := told(sum.Mean(l)), mean(l)
					if !got.is(want) {
						t.Errorf("Mean of %d numbers %x: %x, not %x", n, brief(l), got, want)
						few(t, &wrong)
					}
					if even := float64(k + k%2); beside == 0 && got.is(said{even * unit * sign, api.OK}) {
						ties++
					}
				}
			}
		}
	}
	if ties < 300 {
		t.Errorf("only %d means were half way and went to the even number", ties)
	}
}

// Means of a few digits by every count: the quotient's digits have no end, and the sum lends it none.
func TestMeanOfFewDigits(t *testing.T) {
	wrong := 0
	room := make([]float64, 4096)
	for n := 1; n <= len(room); n++ {
		for _, x := range []float64{1, -3, least, -0x1p-1062, 0x1p-1021, 0x1.8p1023} {
			room[n/2] = x
			want := nearest(units(x), -1074, n)
			if got := told(sum.Mean(room[:n])); !got.is(said{want, api.OK}) {
				t.Errorf("Mean of %x and %d noughts: %x, not %x", x, n-1, got, want)
				few(t, &wrong)
			}
		}
		room[n/2] = 0
	}
}

func TestMeanNamed(t *testing.T) {
	for _, c := range []struct {
		l    []float64
		want float64
	}{
		{[]float64{most, most}, most}, {[]float64{1, 2}, 1.5}, {[]float64{least, 0}, 0}, {[]float64{7}, 7}, {[]float64{-0.1}, -0.1}, {[]float64{most}, most}, {[]float64{least}, least},
		{repeat(4096, most), most}, {repeat(4096, -most), -most}, {repeat(4095, most), most}, {repeat(3, 0.1), 0.1}, {repeat(4095, least), least}, {[]float64{most, -most}, 0}, {[]float64{most, most, -most}, most / 3},
		// A 0 is -0, if the quotient is below 0, or if all are -0.
		{[]float64{-least, 0}, minus}, {[]float64{-least, 0, 0}, minus}, {[]float64{minus}, minus}, {[]float64{minus, minus, minus}, minus}, {[]float64{minus, 0}, 0}, {[]float64{0}, 0}, {[]float64{1, -1}, 0}, {[]float64{-1, 1, minus}, 0}, {[]float64{least, minus, minus}, 0}, {append(repeat(4095, minus), -least), minus}, {append(repeat(4095, minus), least), 0}, {append(repeat(4095, minus), 0), 0}, {repeat(4096, minus), minus},
		// Below what numbers can hold.
		{[]float64{least, least, 0}, least}, {[]float64{-least, -least, 0}, -least}, {[]float64{least, 0, 0}, 0}, {[]float64{0x3p-1074, 0}, 0x2p-1074}, {[]float64{0x5p-1074, 0}, 0x2p-1074}, {[]float64{-0x3p-1074, 0}, -0x2p-1074}, {append(repeat(2049, least), make([]float64, 2047)...), least}, {append(repeat(2048, least), make([]float64, 2048)...), 0}, {append(repeat(2047, least), make([]float64, 2047)...), 0}, {append(repeat(2048, least), make([]float64, 2047)...), least},
		{[]float64{0x1p-1022, 0x1p-1022 - least}, 0x1p-1022}, {[]float64{0x1p-1022 - least, 0x1p-1022 - 0x2p-1074}, 0x1p-1022 - 0x2p-1074},
		// Half way: the even one; and just beside it.
		{[]float64{1, 1 + 0x1p-52}, 1}, {[]float64{1 + 0x1p-52, 1 + 0x1p-51}, 1 + 0x1p-51}, {[]float64{-1, -1 - 0x1p-52}, -1},
		{[]float64{5, 5 * 0x1p-53, 0, 0, 0}, 1}, {[]float64{5, 5 * 0x1p-53, least, 0, 0}, 1 + 0x1p-52}, {[]float64{5, 5 * 0x1p-53, -least, 0, 0}, 1},
		{[]float64{5, 5 * 0x1p-52, 5 * 0x1p-53, 0, 0}, 1 + 0x1p-51}, {[]float64{5, 5 * 0x1p-52, 5 * 0x1p-53, -least, 0}, 1 + 0x1p-52}, {[]float64{-5, -5 * 0x1p-53, -least, 0, 0}, -1 - 0x1p-52},
		{[]float64{most, math.Nextafter(most, 0)}, math.Nextafter(most, 0)}, {[]float64{1, 1, 2}, 4.0 / 3}, {[]float64{10, 0, 0}, 10.0 / 3},
	} {
		if got := told(sum.Mean(c.l)); !got.is(said{c.want, api.OK}) {
			t.Errorf("Mean of %d numbers %x: %x, not %x", len(c.l), brief(c.l), got, c.want)
		}
	}
}

// P5.9.
func TestNorm(t *testing.T) {
	wrong := 0
	count := map[api.Errno]int{}
	for _, l := range lists() {
		var s steps
		got, want := told(sum.Norm(l)), s.norm(l)
		count[got.err]++
		if !got.is(want) {
			t.Errorf("Norm of %d numbers %x: %x, not %x", len(l), brief(l), got, want)
			few(t, &wrong)
		}
	}
	if count[api.OK] < 500 || count[api.ErrOver] < 20 {
		t.Errorf("too few of one kind: %v", count)
	}
}

func TestNormNamed(t *testing.T) {
	for _, c := range []struct {
		l    []float64
		want float64
	}{
		{[]float64{3, 4}, 5}, {[]float64{-3, 4}, 5}, {[]float64{0x1p600, 0x1p600}, math.Sqrt2 * 0x1p600}, {nil, 0}, {[]float64{}, 0}, {[]float64{0}, 0}, {[]float64{minus}, 0}, {[]float64{minus, minus, 0}, 0}, {[]float64{-2}, 2},
		{[]float64{most}, most}, {[]float64{-most, 0}, most}, {[]float64{least}, least}, {[]float64{-0x3p-1074, 0x4p-1074}, 0x5p-1074}, {[]float64{0x3p-1074, 0x3p-1074}, 0x4p-1074}, {[]float64{0x1p1023, least}, 0x1p1023}, {[]float64{0x1p1023, 0x1p1022}, 1.118033988749895 * 0x1p1023}, {[]float64{3 * 0x1p-600, -4 * 0x1p-600}, 5 * 0x1p-600}, {repeat(4096, 1), 64}, {repeat(4096, -0x1p-1074), 0x1p-1068}, {repeat(4096, 0x1p1017), 0x1p1023},
	} {
		if got := told(sum.Norm(c.l)); !got.is(said{c.want, api.OK}) {
			t.Errorf("Norm of %d numbers %x: %x, not %x", len(c.l), brief(c.l), got, c.want)
		}
	}
	for _, l := range [][]float64{{most, most}, {most, -0x1p1000}, {0x1p1023, 0x1p1023, 0x1p1023, 0x1p1023}, repeat(4096, 0x1p1018)} {
		if got := told(sum.Norm(l)); !got.refused(api.ErrOver) {
			t.Errorf("Norm of %d numbers %x: %x", len(l), brief(l), got)
		}
	}
}
