package sum_test

import (
	"slices"
	"testing"

	"binnacle/api"
	"binnacle/sum"
)

// answer is what any call answers.
type answer struct {
	l   []float64
	d   api.Dyad
	err api.Errno
}

func (a answer) is(b answer) bool {
	return sameList(a.l, b.l) && a.d.Neg == b.d.Neg && a.d.Exp == b.d.Exp && slices.Equal(a.d.Mag, b.d.Mag) && a.err == b.err
}

func (a answer) copied() answer {
	a.l, a.d.Mag = slices.Clone(a.l), slices.Clone(a.d.Mag)
	return a
}

// spoil writes all over an answer, its spare room too.
func (a answer) spoil() {
	spoil(a.l)
	mag := a.d.Mag[:cap(a.d.Mag)]
	for i := range mag {
		mag[i] = 0xdeadbeef
	}
}

func number(x float64) answer { return answer{l: []float64{x}} }

func numbered(x float64, err api.Errno) answer { return answer{l: []float64{x}, err: err} }

func exactly(d api.Dyad, err api.Errno) answer { return answer{d: d, err: err} }

// calls are all that take one list.
func calls() map[string]func(l []float64) answer {
	out := map[string]func(l []float64) answer{
		"Left":     func(l []float64) answer { return number(sum.Left(l)) },
		"Running":  func(l []float64) answer { return answer{l: sum.Running(l)} },
		"Pairs":    func(l []float64) answer { return number(sum.Pairs(l)) },
		"Kahan":    func(l []float64) answer { return number(sum.Kahan(l)) },
		"Neumaier": func(l []float64) answer { return number(sum.Neumaier(l)) },
		"Exact":    func(l []float64) answer { return numbered(sum.Exact(l)) },
		"Mean":     func(l []float64) answer { return numbered(sum.Mean(l)) },
		"Norm":     func(l []float64) answer { return numbered(sum.Norm(l)) },
		"Dot":      func(l []float64) answer { return numbered(sum.Dot(l, l)) },
		"DotExact": func(l []float64) answer { return numbered(sum.DotExact(l, l)) },
	}
	for _, way := range append(noWays(), everyWay[:]...) {
		n := string(rune('0' + way%10))
		out["Sum "+n] = func(l []float64) answer { return numbered(sum.Sum(l, way)) }
		out["Off "+n] = func(l []float64) answer { return exactly(sum.Off(l, way)) }
	}
	return out
}

// roomy is a copy of a list with spare room that isn't empty.
func roomy(l []float64) []float64 {
	out := append(slices.Clone(l), 11, 22, 33, 44)
	return out[:len(l)]
}

// whole is all of a list, its spare room too.
func whole(l []float64) []float64 { return l[:cap(l)] }

// spoil writes all over a list, its spare room too.
func spoil(l []float64) {
	for i := range whole(l) {
		whole(l)[i] = 12345
	}
}

// watched runs a call on lists and tells what is wrong with how it treats them.
func watched(t *testing.T, name string, call func() answer, lists ...[]float64) {
	t.Helper()
	var before [][]float64
	for _, l := range lists {
		before = append(before, slices.Clone(whole(l)))
	}
	unchanged := func() bool {
		for i, l := range lists {
			if !sameList(whole(l), before[i]) {
				return false
			}
		}
		return true
	}
	first := call()
	if !unchanged() {
		t.Errorf("%s changed what it was given", name)
	}
	kept := first.copied()
	first.spoil()
	if !unchanged() {
		t.Errorf("%s answered memory that it was given", name)
	}
	second := call()
	if !second.is(kept) {
		t.Errorf("%s kept what it had answered: %v, then %v", name, kept, second)
	}
	for _, l := range lists {
		spoil(l)
	}
	if !second.is(kept) {
		t.Errorf("%s kept what it was given", name)
	}
}

// someLists are lists of all kinds, but not all of them.
func someLists() [][]float64 {
	all := anyLists()
	out := [][]float64{nil, {}, {minus, minus}, {1, 0x1p100, 1, -0x1p100}, {inf, 1}, {1, inf, theNaN}, {most, most}, repeat(4097, 0.1)}
	for i := 0; i < len(all); i += 17 {
		out = append(out, all[i])
	}
	return out
}

// P2: nothing that is handed in is changed or kept, its spare room neither; answers are new memory.
func TestMemory(t *testing.T) {
	for _, one := range someLists() {
		for name, call := range calls() {
			l := roomy(one)
			watched(t, name, func() answer { return call(l) }, l)
		}
		for _, other := range [][]float64{nil, {1}, repeat(len(one), -0.5), repeat(len(one), inf)} {
			a, b := roomy(one), roomy(other)
			watched(t, "Dot", func() answer { return numbered(sum.Dot(a, b)) }, a, b)
			a, b = roomy(one), roomy(other)
			watched(t, "Dot", func() answer { return numbered(sum.Dot(b, a)) }, a, b)
			a, b = roomy(one), roomy(other)
			watched(t, "DotExact", func() answer { return numbered(sum.DotExact(a, b)) }, a, b)
			a, b = roomy(one), roomy(other)
			watched(t, "DotExact", func() answer { return numbered(sum.DotExact(b, a)) }, a, b)
		}
	}
}

// P2: what a call answers hangs on its arguments alone, not on the calls ahead of it.
func TestNothingIsKept(t *testing.T) {
	all := someLists()
	for name, call := range calls() {
		var first []answer
		for _, l := range all {
			first = append(first, call(l).copied())
		}
		for i := range all {
			at := len(all) - 1 - i
			if again := call(all[at]); !again.is(first[at]) {
				t.Errorf("%s of %x: %v, then %v", name, brief(all[at]), first[at], again)
			}
		}
	}
}

// Two lists that lie in one memory, the one in the other's spare room.
func TestListsInOneMemory(t *testing.T) {
	room := []float64{1, 2, 3, 4, inf, -1, 0.5, 2}
	before := slices.Clone(room)
	for i, c := range []struct{ got, want said }{
		{told(sum.Dot(room[:2], room[2:4])), said{11, api.OK}},
		{told(sum.DotExact(room[:2], room[2:4])), said{11, api.OK}},
		{told(sum.Dot(room[:3], room[1:4])), said{20, api.OK}},
		{told(sum.DotExact(room[:4], room[4:])), said{inf, api.OK}},
		{told(sum.Exact(room[:5])), said{inf, api.OK}},
	} {
		if !c.got.is(c.want) || !sameList(room, before) {
			t.Errorf("case %d: %x, not %x; left %x", i, c.got, c.want, room)
		}
	}
	got := sum.Running(room[:3])
	if got = append(got, 77); !sameList(room, before) || !sameList(got, []float64{1, 3, 6, 77}) {
		t.Errorf("Running: %x; left %x", got, room)
	}
}

// P3: nil and empty lists are the same.
func TestNilIsEmpty(t *testing.T) {
	for name, call := range calls() {
		if a, b := call(nil), call([]float64{}); !a.is(b) {
			t.Errorf("%s: %v of nil, %v of an empty list", name, a, b)
		}
	}
	if l := sum.Running(nil); len(l) != 0 {
		t.Errorf("Running of nothing: %x", l)
	}
}
