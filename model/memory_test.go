package model_test

import (
	"math/rand"
	"slices"
	"testing"

	"binnacle/api"
)

// P3: nil and empty lists are the same.
func TestNilIsEmpty(t *testing.T) {
	r := rand.New(rand.NewSource(1402))
	for range 500 {
		q := anyQuestion(r)
		nothing := q
		switch r.Intn(4) {
		case 0:
			q.m.Parts, nothing.m.Parts = make([]api.Part, 0, 3), nil
		case 1:
			q.places, nothing.places = make([]int, 0, 3), nil
		case 2:
			q.x, nothing.x = make([]float64, 0, 3), nil
			q.s.H = mat(2, 0, make([]float64, 0, 3)...)
			nothing.s.H = mat(2, 0)
			q.dim, nothing.dim = 0, 0
		case 3:
			q.s.R, nothing.s.R = make([]float64, 0, 3), nil
		}
		for _, c := range calls() {
			if a, b := c.ask(q), c.ask(nothing); !a.is(b) {
				t.Fatalf("%s of %+v: %+v, of nil %+v", c.name, q, a, b)
			}
		}
	}
}

// roomy is a copy of a list with spare room that isn't empty.
func roomy[T any](l []T, spare T) []T {
	return append(slices.Clone(l), spare, spare, spare)[:len(l)]
}

// all is a list with its spare room.
func all[T any](l []T) []T { return l[:cap(l)] }

// roomyQuestion is a copy of a question whose lists have spare room.
func roomyQuestion(q question) question {
	q.m.Parts = roomy(q.m.Parts, part(7, 7, 7, 7))
	q.s.H.At = roomy(q.s.H.At, 77)
	q.s.R = roomy(q.s.R, 78)
	q.x = roomy(q.x, 79)
	q.places = roomy(q.places, 80)
	return q
}

// withRoom is a copy of a list, its spare room taken in, without spare room of its own.
func withRoom[T any](l []T) []T { return slices.Clip(slices.Clone(all(l))) }

// copied is a copy of a question's lists with their spare room.
func copied(q question) question {
	return question{
		m:      api.Motion{Parts: withRoom(q.m.Parts)},
		s:      api.Sensor{H: api.Mat{At: withRoom(q.s.H.At)}, R: withRoom(q.s.R)},
		x:      withRoom(q.x),
		places: withRoom(q.places),
	}
}

// sameQuestion tells whether two questions' lists are alike, their spare room too.
func sameQuestion(a, b question) bool {
	return slices.EqualFunc(all(a.m.Parts), all(b.m.Parts), func(p, q api.Part) bool {
		return p.Kind == q.Kind && p.Axes == q.Axes && sameNumber(p.Noise, q.Noise) && sameNumber(p.Fade, q.Fade)
	}) && sameList(all(a.s.H.At), all(b.s.H.At)) && sameList(all(a.s.R), all(b.s.R)) && sameList(all(a.x), all(b.x)) && slices.Equal(all(a.places), all(b.places))
}

func overwrite[T any](l []T, by T) {
	for i := range all(l) {
		all(l)[i] = by
	}
}

// P2: what is handed in stays as it was, its spare room too; writing over it, or over one answer, changes no other.
func TestMemory(t *testing.T) {
	r := rand.New(rand.NewSource(1403))
	for range 1500 {
		q := roomyQuestion(anyQuestion(r))
		before := copied(q)
		for _, c := range calls() {
			want := reckoned(func() answer { return c.words(q) })
			one, other := c.ask(q), c.ask(q)
			if !sameQuestion(q, before) {
				t.Fatalf("%s changed what it was given: %+v", c.name, q)
			}
			overwrite(one.l, -1)
			overwrite(one.m.At, -2)
			overwrite(one.names, "none")
			if !sameQuestion(q, before) {
				t.Fatalf("%s: an answer shares memory with what was given: %+v", c.name, q)
			}
			if again := c.ask(q); !other.is(want) || !again.is(want) {
				t.Fatalf("%s: writing over an answer changed another: %+v, %+v", c.name, other, again)
			}
			gone := roomyQuestion(q)
			last := c.ask(gone)
			overwrite(gone.m.Parts, part(9, 9, 9, 9))
			overwrite(gone.s.H.At, -3)
			overwrite(gone.s.R, -4)
			overwrite(gone.x, -5)
			overwrite(gone.places, -6)
			if !last.is(want) {
				t.Fatalf("%s: writing over what was given changed an answer: %+v", c.name, last)
			}
		}
	}
}
