package dyad_test

import (
	"math"
	"slices"
	"testing"

	"binnacle/api"
	"binnacle/dyad"
)

// roomy is a copy of a list with spare room that isn't empty.
func roomy[T uint32 | float64](l []T) []T {
	out := append(slices.Clone(l), 11, 22, 33, 44)
	return out[:len(l)]
}

// whole is all of a list, its spare room too.
func whole[T any](l []T) []T { return l[:cap(l)] }

// spoil writes all over a list, its spare room too.
func spoil(l []uint32) {
	for i := range whole(l) {
		whole(l)[i] = 0xdeadbeef
	}
}

// watched runs a call on lists and tells what is wrong with how it treats them.
func watched(t *testing.T, name string, call func() said, lists ...[]uint32) {
	t.Helper()
	var before [][]uint32
	for _, l := range lists {
		before = append(before, slices.Clone(whole(l)))
	}
	unchanged := func() bool {
		for i, l := range lists {
			if !slices.Equal(whole(l), before[i]) {
				return false
			}
		}
		return true
	}
	first := call()
	if !unchanged() {
		t.Errorf("%s changed what it was given", name)
	}
	answer := slices.Clone(first.d.Mag)
	spoil(first.d.Mag)
	if !unchanged() {
		t.Errorf("%s answered memory that it was given", name)
	}
	second := call()
	if !slices.Equal(second.d.Mag, answer) || second.err != first.err {
		t.Errorf("%s kept what it had answered: %v, then %v", name, answer, second)
	}
	for _, l := range lists {
		spoil(l)
	}
	if !slices.Equal(second.d.Mag, answer) {
		t.Errorf("%s kept what it was given", name)
	}
}

func TestMemory(t *testing.T) {
	for _, mag := range [][]uint32{{1}, {3}, {math.MaxUint32}, {7, 9}, {1, 0, 1}, ones(5), ends(200), {5, 1 << 31}} {
		for _, exp := range []int{0, 5, -1, -2, -33, 32, -70, -1074} {
			fresh := func() api.Dyad { return api.Dyad{Mag: roomy(mag), Exp: exp} }
			for _, other := range []api.Dyad{{}, pow(0), pow(-40), {Neg: true, Mag: mag, Exp: exp}, {Mag: ones(3), Exp: 2}} {
				a, b := fresh(), api.Dyad{Neg: other.Neg, Mag: roomy(other.Mag), Exp: other.Exp}
				watched(t, "Add", func() said { return told(dyad.Add(a, b)) }, a.Mag, b.Mag)
				a, b = fresh(), api.Dyad{Neg: other.Neg, Mag: roomy(other.Mag), Exp: other.Exp}
				watched(t, "Add", func() said { return told(dyad.Add(b, a)) }, a.Mag, b.Mag)
				a, b = fresh(), api.Dyad{Neg: other.Neg, Mag: roomy(other.Mag), Exp: other.Exp}
				watched(t, "Sub", func() said { return told(dyad.Sub(a, b)) }, a.Mag, b.Mag)
				a, b = fresh(), api.Dyad{Neg: other.Neg, Mag: roomy(other.Mag), Exp: other.Exp}
				watched(t, "Mul", func() said { return told(dyad.Mul(a, b)) }, a.Mag, b.Mag)
				a, b = fresh(), api.Dyad{Neg: other.Neg, Mag: roomy(other.Mag), Exp: other.Exp}
				watched(t, "Compare", func() said {
					k, err := dyad.Compare(a, b)
					return said{api.Dyad{Exp: k}, err}
				}, a.Mag, b.Mag)
			}
			a := fresh()
			watched(t, "Neg", func() said { return told(dyad.Neg(a)) }, a.Mag)
			a = fresh()
			watched(t, "Shift", func() said { return told(dyad.Shift(a, 0)) }, a.Mag)
			for _, zeros := range []int{0, 1, 32, 70} {
				raw := roomy(shifted(mag, zeros, zeros%3))
				watched(t, "Make", func() said { return told(dyad.Make(true, raw, exp)) }, raw)
			}
			for _, mode := range modes {
				a = fresh()
				watched(t, "Whole", func() said { return told(dyad.Whole(a, mode)) }, a.Mag)
				a = fresh()
				watched(t, "Round", func() said {
					_, err := dyad.Round(a, mode)
					_, err32 := dyad.Round32(a, mode)
					return said{api.Dyad{}, max(err, err32)}
				}, a.Mag)
			}
		}
	}
}

func TestMayChangesNothing(t *testing.T) {
	for _, d := range append(dyads(), none()...) {
		d.Mag = roomy(d.Mag)
		before := slices.Clone(whole(d.Mag))
		dyad.May(d)
		if !slices.Equal(whole(d.Mag), before) {
			t.Errorf("May changed %v", brief(d))
		}
	}
}

func TestListsAreNotChanged(t *testing.T) {
	for _, l := range lists() {
		a, b := roomy(l), roomy(l)
		before := slices.Clone(whole(a))
		first, firstDot := told(dyad.Sum(a)), told(dyad.Dot(a, b))
		for _, now := range [][]float64{a, b} {
			for i, x := range whole(now) {
				if math.Float64bits(x) != math.Float64bits(before[i]) {
					t.Fatalf("a list of %d numbers was changed at %d", len(l), i)
				}
			}
		}
		sum, dot := slices.Clone(first.d.Mag), slices.Clone(firstDot.d.Mag)
		spoil(first.d.Mag)
		spoil(firstDot.d.Mag)
		if again, againDot := told(dyad.Sum(a)), told(dyad.Dot(a, b)); !slices.Equal(again.d.Mag, sum) || !slices.Equal(againDot.d.Mag, dot) {
			t.Errorf("an answer about %d numbers was kept", len(l))
		}
	}
	for _, x := range finite() {
		first, want := of(t, x), of(t, x)
		spoil(first.Mag)
		if again := of(t, x); !same(again, want) {
			t.Errorf("Of(%x) kept what it had answered", x)
		}
	}
}
