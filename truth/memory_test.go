package truth_test

import (
	"math/rand"
	"slices"
	"testing"

	"binnacle/api"
)

// texts are all of a question's lists of fractions.
func (q *question) texts() []*[]api.Frac {
	return []*[]api.Frac{&q.s.X, &q.s.P.At, &q.a.V, &q.a.Y.At, &q.f.At, &q.q.At, &q.h, &q.rows.At, &q.rs, &q.zs}
}

// floats are all of a question's lists of numbers.
func (q *question) floats() []*[]float64 {
	return []*[]float64{&q.n.X, &q.n.P.At, &q.nf.At, &q.nq.At, &q.nh}
}

// ends are all of a question's lists of intervals.
func (q *question) ends() []*[]api.Interval { return []*[]api.Interval{&q.b.X, &q.b.P} }

// eachList lets something become of each list of a question.
func (q *question) eachList(texts func(l []api.Frac) []api.Frac, floats func(l []float64) []float64, ends func(l []api.Interval) []api.Interval) {
	for _, l := range q.texts() {
		*l = texts(*l)
	}
	for _, l := range q.floats() {
		*l = floats(*l)
	}
	for _, l := range q.ends() {
		*l = ends(*l)
	}
}

// P3: nil and empty lists are the same.
func TestNilIsEmpty(t *testing.T) {
	r := rand.New(rand.NewSource(1802))
	for round := range 300 {
		q := anyQuestion(r)
		if round%2 == 0 {
			q = fitQuestion(r, kindSmall, 0)
		}
		empty, nothing := q, q
		empty.eachList(made0, made0, made0)
		nothing.eachList(nil0, nil0, nil0)
		if round%4 < 2 {
			// One list alone.
			i := r.Intn(10)
			empty, nothing = q, q
			*empty.texts()[i], *nothing.texts()[i] = make([]api.Frac, 0, 3), nil
		}
		for _, c := range calls() {
			if a, b := c.ask(empty), c.ask(nothing); !a.is(b) {
				t.Fatalf("%s of %+v: %+v, of nil %+v", c.name, q, a, b)
			}
		}
	}
}

func made0[T any]([]T) []T { return make([]T, 0, 3) }

func nil0[T any]([]T) []T { return nil }

// roomy makes a copy of a list with spare room that isn't empty.
func roomy[T any](spare T) func([]T) []T {
	return func(l []T) []T { return append(slices.Clone(l), spare, spare, spare)[:len(l)] }
}

// all is a list with its spare room.
func all[T any](l []T) []T { return l[:cap(l)] }

func roomyQuestion(q question) question {
	q.eachList(roomy[api.Frac]("7/9"), roomy(77.0), roomy(between(7, 8)))
	return q
}

// copied is a copy of a question's lists with their spare room.
func copied(q question) question {
	q.eachList(cloned, cloned, cloned)
	return q
}

func cloned[T any](l []T) []T { return slices.Clone(all(l)) }

// sameRoom tells whether a question's lists, their spare room taken in, are those of a copy.
func sameRoom(q, copy question) bool {
	for i, l := range q.texts() {
		if !slices.Equal(all(*l), *copy.texts()[i]) {
			return false
		}
	}
	for i, l := range q.floats() {
		if !sameNumbers(all(*l), *copy.floats()[i]) {
			return false
		}
	}
	for i, l := range q.ends() {
		if !sameIntervals(all(*l), *copy.ends()[i]) {
			return false
		}
	}
	return true
}

func overwrite[T any](l []T, by T) {
	for i := range all(l) {
		all(l)[i] = by
	}
}

// holdsBut tells whether something stands in a list, its spare room taken in, but for by.
func holdsBut[T comparable](l []T, by T) bool {
	return slices.ContainsFunc(all(l), func(x T) bool { return x != by })
}

// spoilLists writes over all lists of an answer, each by something of its own, and tells whether two of them share memory.
func spoilLists(a answer) bool {
	overwrite(a.s.X, "x")
	overwrite(a.s.P.At, "p")
	overwrite(a.a.V, "v")
	overwrite(a.a.Y.At, "y")
	overwrite(a.n.X, -1)
	overwrite(a.n.P.At, -2)
	overwrite(a.b.X, point(-1))
	overwrite(a.b.P, point(-2))
	return holdsBut(a.s.X, "x") || holdsBut(a.s.P.At, "p") || holdsBut(a.a.V, "v") || holdsBut(a.a.Y.At, "y") ||
		holdsBut(a.n.X, -1) || holdsBut(a.n.P.At, -2) || holdsBut(a.b.X, point(-1)) || holdsBut(a.b.P, point(-2))
}

// P2: what is handed in stays as it was, its spare room too; writing over it, or over one answer, changes no other; no two lists of one answer share any memory.
func TestMemory(t *testing.T) {
	r := rand.New(rand.NewSource(1803))
	answered := map[string]int{}
	for round := range 500 {
		q := roomyQuestion(anyQuestion(r))
		if round%2 == 0 {
			q = roomyQuestion(fitQuestion(r, r.Intn(kinds), r.Intn(4)))
		}
		before := copied(q)
		for _, c := range calls() {
			want := reckoned(func() answer { return c.words(q) })
			one, other := c.ask(q), c.ask(q)
			if want.err == api.OK {
				answered[c.name]++
			}
			if spoilLists(one) {
				t.Fatalf("%s: two lists of one answer share memory: %+v", c.name, one)
			}
			if !sameRoom(q, before) {
				t.Fatalf("%s changed what it was given, or shares memory with it: %+v", c.name, q)
			}
			if again := c.ask(q); !other.is(want) || !again.is(want) {
				t.Fatalf("%s: writing over an answer changed another: %+v, %+v", c.name, other, again)
			}
			gone := roomyQuestion(q)
			last := c.ask(gone)
			for _, l := range gone.texts() {
				overwrite(*l, "-3")
			}
			for _, l := range gone.floats() {
				overwrite(*l, -3)
			}
			for _, l := range gone.ends() {
				overwrite(*l, point(-3))
			}
			if !last.is(want) {
				t.Fatalf("%s: writing over what was given changed an answer: %+v", c.name, last)
			}
		}
	}
	for _, c := range calls() {
		enough(t, c.name, answered[c.name], 100)
	}
}
