package info_test

import (
	"math/rand"
	"slices"
	"testing"

	"binnacle/api"
)

// lists are all of a question's lists of numbers.
func (q *question) lists() []*[]float64 {
	return []*[]float64{&q.a.V, &q.a.Y.At, &q.b.V, &q.b.Y.At, &q.s.X, &q.s.P.At, &q.root.Z, &q.root.R.At, &q.f.At, &q.q.At, &q.h, &q.rows.At, &q.rs, &q.zs}
}

// P3: nil and empty lists are the same.
func TestNilIsEmpty(t *testing.T) {
	r := rand.New(rand.NewSource(1702))
	for round := range 1400 {
		q := anyQuestion(r)
		if r.Intn(2) == 0 {
			q = fitQuestion(r, kindMild, 0)
		}
		empty, nothing := q, q
		k := round % len(q.lists())
		*empty.lists()[k], *nothing.lists()[k] = make([]float64, 0, 3), nil
		for _, c := range calls() {
			if a, b := c.ask(empty), c.ask(nothing); !a.is(b) {
				t.Fatalf("%s of %+v: %+v, of nil %+v", c.name, empty, a, b)
			}
		}
	}
}

// roomy is a copy of a list with spare room that isn't empty.
func roomy(l []float64, spare float64) []float64 {
	return append(slices.Clone(l), spare, spare, spare)[:len(l)]
}

// all is a list with its spare room.
func all(l []float64) []float64 { return l[:cap(l)] }

// roomyQuestion is a copy of a question whose lists have spare room.
func roomyQuestion(q question) question {
	for i, l := range q.lists() {
		*l = roomy(*l, float64(70+i))
	}
	return q
}

// copied is a copy of a question's lists with their spare room.
func copied(q question) question {
	for _, l := range q.lists() {
		*l = slices.Clone(all(*l))
	}
	return q
}

// sameRoom tells whether a question's lists, their spare room taken in, are those of a copy.
func sameRoom(q, copy question) bool {
	a, b := q.lists(), copy.lists()
	for i := range a {
		if !sameList(all(*a[i]), *b[i]) {
			return false
		}
	}
	return true
}

func overwrite(l []float64, by float64) {
	for i := range all(l) {
		all(l)[i] = by
	}
}

// lists are all of an answer's lists of numbers.
func (a answer) lists() [][]float64 {
	return [][]float64{a.a.V, a.a.Y.At, a.s.X, a.s.P.At, a.root.Z, a.root.R.At, a.x}
}

// P2: what is handed in stays as it was, its spare room too; writing over it, or over one answer, changes no other; no two lists of one answer share any memory.
func TestMemory(t *testing.T) {
	r := rand.New(rand.NewSource(1703))
	answered := map[string]int{}
	for round := range 1500 {
		q := roomyQuestion(anyQuestion(r))
		if round%2 == 0 {
			q = roomyQuestion(fitQuestion(r, r.Intn(kindWide), r.Intn(5)))
		}
		before := copied(q)
		for _, c := range calls() {
			want := c.said(q)
			// What the words say of it may be a list that was handed in.
			kept := slices.Concat(want.lists()...)
			one, other := c.ask(q), c.ask(q)
			if want.err == api.OK {
				answered[c.name]++
			}
			for i, l := range one.lists() {
				overwrite(l, float64(-1-i))
			}
			for i, l := range one.lists() {
				if slices.ContainsFunc(all(l), func(x float64) bool { return x != float64(-1-i) }) {
					t.Fatalf("%s: two lists of one answer share memory: %+v", c.name, one)
				}
			}
			if !sameRoom(q, before) || !sameList(kept, slices.Concat(want.lists()...)) {
				t.Fatalf("%s changed what it was given, or shares memory with it: %+v", c.name, q)
			}
			if again := c.ask(q); !other.is(want) || !again.is(want) {
				t.Fatalf("%s: writing over an answer changed another: %+v, %+v", c.name, other, again)
			}
			gone := roomyQuestion(q)
			last := c.ask(gone)
			for _, l := range gone.lists() {
				overwrite(*l, -3)
			}
			if !last.is(want) {
				t.Fatalf("%s: writing over what was given changed an answer: %+v", c.name, last)
			}
		}
	}
	for _, c := range calls() {
		enough(t, c.name, answered[c.name], 300)
	}
}
