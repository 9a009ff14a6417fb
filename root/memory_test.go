package root_test

import (
	"math/rand"
	"slices"
	"testing"

	"binnacle/api"
)

// P3: nil and empty lists are the same.
func TestNilIsEmpty(t *testing.T) {
	r := rand.New(rand.NewSource(1602))
	for range 800 {
		q := anyQuestion(r)
		if r.Intn(2) == 0 {
			q = fitQuestion(r, kindMild, 0)
		}
		nothing := q
		empty := make([]float64, 0, 3)
		switch r.Intn(9) {
		case 0:
			q.s.X, nothing.s.X = empty, nil
		case 1:
			q.s.L.At, nothing.s.L.At = empty, nil
		case 2:
			q.f.At, nothing.f.At = empty, nil
			q.g.At, nothing.g.At = empty, nil
		case 3:
			q.m.Parts, nothing.m.Parts = make([]api.Part, 0, 3), nil
		case 4:
			q.h, nothing.h = empty, nil
		case 5:
			q.rows.At, nothing.rows.At = empty, nil
		case 6:
			q.rs, nothing.rs = empty, nil
			q.zs, nothing.zs = empty, nil
		case 7:
			q.x, nothing.x = empty, nil
		case 8:
			q.known.X, nothing.known.X = empty, nil
			q.known.P.At, nothing.known.P.At = empty, nil
		}
		for _, c := range calls() {
			if a, b := c.ask(q), c.ask(nothing); !a.is(b) {
				t.Fatalf("%s of %+v: %+v, of nil %+v", c.name, q, a, b)
			}
		}
	}
}

// roomy is a copy of a list with spare room that isn't empty.
func roomy[T any](l []T, spare T) []T {
	return append(slices.Clone(l), spare, spare, spare)[:len(l)]
}

// all is a list with its spare room.
func all[T any](l []T) []T { return l[:cap(l)] }

// lists are all of a question's lists of numbers.
func (q *question) lists() []*[]float64 {
	return []*[]float64{&q.s.X, &q.s.L.At, &q.known.X, &q.known.P.At, &q.f.At, &q.g.At, &q.h, &q.rows.At, &q.rs, &q.zs, &q.x}
}

// roomyQuestion is a copy of a question whose lists have spare room.
func roomyQuestion(q question) question {
	for i, l := range q.lists() {
		*l = roomy(*l, float64(70+i))
	}
	q.m.Parts = roomy(q.m.Parts, part(7, 7, 7, 7))
	return q
}

// copied is a copy of a question's lists with their spare room.
func copied(q question) question {
	for _, l := range q.lists() {
		*l = slices.Clone(all(*l))
	}
	q.m.Parts = slices.Clone(all(q.m.Parts))
	return q
}

// sameRoom tells whether a question's lists, their spare room taken in, are those of a copy.
func sameRoom(q, copy question) bool {
	a, b := q.lists(), copy.lists()
	for i := range a {
		if !sameList(all(*a[i]), *b[i]) {
			return false
		}
	}
	return slices.EqualFunc(all(q.m.Parts), copy.m.Parts, func(p, o api.Part) bool {
		return p.Kind == o.Kind && p.Axes == o.Axes && sameNumber(p.Noise, o.Noise) && sameNumber(p.Fade, o.Fade)
	})
}

func overwrite[T any](l []T, by T) {
	for i := range all(l) {
		all(l)[i] = by
	}
}

// lists are all of an answer's lists of numbers.
func (a answer) lists() [][]float64 {
	out := [][]float64{a.s.X, a.s.L.At, a.known.X, a.known.P.At}
	for _, s := range a.steps {
		out = append(out, s.Gain)
	}
	return out
}

// P2: what is handed in stays as it was, its spare room too; writing over it, or over one answer, changes no other; no two lists of one answer share any memory.
func TestMemory(t *testing.T) {
	r := rand.New(rand.NewSource(1603))
	answered := map[string]int{}
	for round := range 1500 {
		q := roomyQuestion(anyQuestion(r))
		if round%2 == 0 {
			q = roomyQuestion(fitQuestion(r, r.Intn(kindWide), r.Intn(5)))
		}
		before := copied(q)
		for _, c := range calls() {
			want := reckoned(func() answer { return c.words(q) })
			// What the words say of it may be a list that was handed in.
			kept := slices.Concat(want.lists()...)
			one, other := c.ask(q), c.ask(q)
			if want.err == api.OK {
				answered[c.name]++
			}
			for i, l := range one.lists() {
				overwrite(l, float64(-1-i))
			}
			for i, l := range one.lists() {
				if slices.ContainsFunc(all(l), func(x float64) bool { return x != float64(-1-i) }) {
					t.Fatalf("%s: two lists of one answer share memory: %+v", c.name, one)
				}
			}
			overwrite(one.steps, api.Step{Innov: -9})
			if !sameRoom(q, before) || !sameList(kept, slices.Concat(want.lists()...)) {
				t.Fatalf("%s changed what it was given, or shares memory with it: %+v", c.name, q)
			}
			if again := c.ask(q); !other.is(want) || !again.is(want) {
				t.Fatalf("%s: writing over an answer changed another: %+v, %+v", c.name, other, again)
			}
			gone := roomyQuestion(q)
			last := c.ask(gone)
			for _, l := range gone.lists() {
				overwrite(*l, -3)
			}
			overwrite(gone.m.Parts, part(9, 9, 9, 9))
			if !last.is(want) {
				t.Fatalf("%s: writing over what was given changed an answer: %+v", c.name, last)
			}
		}
	}
	for _, c := range calls() {
		enough(t, c.name, answered[c.name], 300)
	}
}
