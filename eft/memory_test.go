package eft_test

import (
	"slices"
	"testing"

	"binnacle/eft"
)

// roomy is a copy of a list with spare room that isn't empty.
func roomy(l []float64) []float64 {
	out := append(slices.Clone(l), 11, 22, 33, 44)
	return out[:len(l)]
}

// whole is all of a list, its spare room too.
func whole(l []float64) []float64 { return l[:cap(l)] }

// spoil writes all over a list, its spare room too.
func spoil(l []float64) {
	for i := range whole(l) {
		whole(l)[i] = 12345
	}
}

// watched runs a call on lists and tells what is wrong with how it treats them.
func watched(t *testing.T, name string, call func() listed, lists ...[]float64) {
	t.Helper()
	var before [][]float64
	for _, l := range lists {
		before = append(before, slices.Clone(whole(l)))
	}
	unchanged := func() bool {
		for i, l := range lists {
			if !sameList(whole(l), before[i]) {
				return false
			}
		}
		return true
	}
	first := call()
	if !unchanged() {
		t.Errorf("%s changed what it was given", name)
	}
	answer := slices.Clone(first.l)
	spoil(first.l)
	if !unchanged() {
		t.Errorf("%s answered memory that it was given", name)
	}
	second := call()
	if !sameList(second.l, answer) || second.err != first.err {
		t.Errorf("%s kept what it had answered: %x, then %x", name, answer, second)
	}
	for _, l := range lists {
		spoil(l)
	}
	if !sameList(second.l, answer) {
		t.Errorf("%s kept what it was given", name)
	}
}

func TestMemory(t *testing.T) {
	all := append(append(expansions(), noExpansions()...), []float64{1, inf}, powers(65, 1, 0))
	for i, l := range all {
		for name, call := range calls() {
			e := roomy(l)
			watched(t, name, func() listed { return call(e) }, e)
		}
		e := roomy(l)
		watched(t, "Is", func() listed {
			if eft.Is(e) {
				return told(1, 0)
			}
			return told(0, 0)
		}, e)
		for _, b := range []float64{0, 1, -3, 0x1p100} {
			e = roomy(l)
			watched(t, "Grow", func() listed { return list(eft.Grow(e, b)) }, e)
			e = roomy(l)
			watched(t, "Scale", func() listed { return list(eft.Scale(e, b)) }, e)
		}
		for _, other := range [][]float64{nil, {}, {5}, all[(i*7)%len(all)]} {
			e, f := roomy(l), roomy(other)
			watched(t, "Add", func() listed { return list(eft.Add(e, f)) }, e, f)
			e, f = roomy(l), roomy(other)
			watched(t, "Add", func() listed { return list(eft.Add(f, e)) }, e, f)
		}
		e = roomy(l)
		watched(t, "Add of one list twice", func() listed { return list(eft.Add(e, e)) }, e)
	}
}

// A list whose spare room lies in the other one.
func TestListsInOneMemory(t *testing.T) {
	room := []float64{1, 0x1p60, 0x1p120, 0x1p180}
	before := slices.Clone(room)
	got, want := list(eft.Add(room[:2], room[2:])), added(before[:2], before[2:])
	if !got.is(want) || !sameList(room, before) {
		t.Errorf("Add: %x, not %x; left %x", got, want, room)
	}
	spoil(got.l)
	if !sameList(room, before) {
		t.Errorf("Add answered memory that it was given")
	}
}

// P3: nil and empty lists are the same.
func TestNilIsEmpty(t *testing.T) {
	for name, call := range calls() {
		if a, b := call(nil), call([]float64{}); !a.is(b) || a.err != 0 {
			t.Errorf("%s: %x of nil, %x of an empty list", name, a, b)
		}
	}
	if !eft.Is(nil) || !eft.Is([]float64{}) {
		t.Error("the empty list is an expansion")
	}
}
