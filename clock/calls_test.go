package clock_test

import (
	"math/rand"
	"testing"

	"binnacle/api"
	"binnacle/clock"
)

// question is what a call may be given; n is a count, a time or the last count.
type question struct {
	c, d  api.Clock
	n     int64
	stamp uint32
	l     []api.Pair
}

// answer is all that a call tells: a count, a time, a drift, a distance or a miss; a clock; an error.
type answer struct {
	n   int64
	c   api.Clock
	err api.Errno
}

// A call of the face, and what the chapter's words say of it.
type call struct {
	name  string
	ask   func(q question) answer
	words func(q question) answer
}

func says(n int64, err api.Errno) answer { return answer{n: n, err: err} }

func saysClock(c api.Clock, err api.Errno) answer { return answer{c: c, err: err} }

func saysFit(c api.Clock, n int64, err api.Errno) answer { return answer{n: n, c: c, err: err} }

func calls() []call {
	return []call{
		{"Check", func(q question) answer { return answer{err: clock.Check(q.c)} }, wordsOfCheck},
		{"Time", func(q question) answer { return says(clock.Time(q.c, q.n)) }, wordsOfTime},
		{"Count", func(q question) answer { return says(clock.Count(q.c, q.n)) }, wordsOfCount},
		{"Unwrap", func(q question) answer { return says(clock.Unwrap(q.n, q.stamp)) }, wordsOfUnwrap},
		{"Drift", func(q question) answer { return says(clock.Drift(q.c, q.d)) }, wordsOfDrift},
		{"Apart", func(q question) answer { return says(clock.Apart(q.c, q.d, q.n)) }, wordsOfApart},
		{"Fit", func(q question) answer { return saysFit(clock.Fit(q.l)) }, wordsOfFit},
		{"Then", func(q question) answer { return saysClock(clock.Then(q.c, q.d)) }, wordsOfThen},
	}
}

// few stops a test that has found enough.
func few(t *testing.T, wrong *int) {
	t.Helper()
	if *wrong++; *wrong > 10 {
		t.FailNow()
	}
}

// held asks a call and tells if it doesn't say what the words say; it answers what they say.
func held(t *testing.T, wrong *int, c call, q question) answer {
	t.Helper()
	got, want := c.ask(q), c.words(q)
	if got != want {
		if len(q.l) > 20 {
			q.l = q.l[:20]
		}
		t.Errorf("%s of %+v: %+v, not %+v", c.name, q, got, want)
		few(t, wrong)
	}
	return want
}

// P13.1 to P13.6: whatever kinds of clocks, counts, times, stamps and pairs chance brings: what the words say. Each error of a call, and its answers, must have come up often enough.
func TestByTheWords(t *testing.T) {
	r := rand.New(rand.NewSource(131))
	wrong := 0
	for _, c := range calls() {
		came := map[api.Errno]int{}
		for range 20000 {
			came[held(t, &wrong, c, chanceQuestion(r)).err]++
		}
		for _, err := range errorsOf(c.name) {
			if came[err] < 100 {
				t.Errorf("%s: error %d came %d times", c.name, err, came[err])
			}
		}
	}
}

// errorsOf are the errors that a call may answer, OK among them.
func errorsOf(name string) []api.Errno {
	switch name {
	case "Check":
		return []api.Errno{api.OK, api.ErrClock}
	case "Unwrap":
		return []api.Errno{api.OK, api.ErrRange}
	case "Fit":
		return []api.Errno{api.OK, api.ErrLong, api.ErrRange, api.ErrPairs, api.ErrClock}
	default:
		return []api.Errno{api.OK, api.ErrClock, api.ErrRange}
	}
}

// Small clocks and counts, all of them: every remainder, on both sides of 0.
func TestSmallOnes(t *testing.T) {
	wrong := 0
	timed, counted := calls()[1], calls()[2]
	for num := range int64(9) {
		for den := range int64(9) {
			for _, offset := range []int64{-7, 0, 3} {
				for n := int64(-30); n <= 30; n++ {
					q := question{c: api.Clock{Offset: offset, Num: num, Den: den}, n: n}
					held(t, &wrong, timed, q)
					held(t, &wrong, counted, q)
				}
			}
		}
	}
}

// All limits of a clock and of a number with each other, and what lies beside them.
func TestLimitsMeet(t *testing.T) {
	wrong := 0
	for _, offset := range limits() {
		for _, num := range rates() {
			for _, den := range rates() {
				c := api.Clock{Offset: offset, Num: num, Den: den}
				for _, n := range limits() {
					q := question{c: c, d: api.Clock{Offset: n, Num: den, Den: num}, n: n, stamp: uint32(offset + num)}
					for _, call := range calls() {
						if call.name != "Fit" {
							held(t, &wrong, call, q)
						}
					}
				}
			}
		}
	}
}
