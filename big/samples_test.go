package big

import (
	std "math/big"
	"math/rand"
	"testing"
)

// stdOf is a number of the library's, by which all of this is held.
func stdOf(x nat) *std.Int {
	out := new(std.Int)
	for i := len(x) - 1; i >= 0; i-- {
		out.Lsh(out, wordBits).Or(out, new(std.Int).SetUint64(x[i]))
	}
	return out
}

func stdInt(x Int) *std.Int {
	out := stdOf(x.mag)
	if x.neg {
		out.Neg(out)
	}
	return out
}

// ownOf is a number of our own out of the library's.
func ownOf(x *std.Int) Int {
	var mag nat
	for rest := new(std.Int).Abs(x); rest.Sign() != 0; rest.Rsh(rest, wordBits) {
		mag = append(mag, new(std.Int).And(rest, new(std.Int).SetUint64(1<<wordBits-1)).Uint64())
	}
	return Int{x.Sign() < 0, mag}
}

// sane: its last word isn't 0, and 0 has no minus.
func sane(x Int) bool {
	return len(x.mag) == 0 && !x.neg || len(x.mag) > 0 && x.mag[len(x.mag)-1] != 0
}

// same holds a number against the library's.
func same(t *testing.T, what string, got Int, want *std.Int) {
	t.Helper()
	if !sane(got) || stdInt(got).Cmp(want) != 0 {
		t.Fatalf("%s: wrong: %.300s, of %d words", what, want, len(got.mag))
	}
}

// ones is 2^n - 1 of so many whole words.
func ones(words int) nat {
	out := make(nat, words)
	for i := range out {
		out[i] = 1<<wordBits - 1
	}
	return out
}

// chance is a number of at most so many words, among which noughts and ones are many: so carries go far.
func chance(r *rand.Rand, words int) nat {
	out := make(nat, words)
	for i := range out {
		switch r.Intn(6) {
		case 0:
		case 1:
			out[i] = 1<<wordBits - 1
		default:
			out[i] = r.Uint64() >> r.Intn(3)
		}
	}
	return trimmed(out)
}

// chanceInt has few words most of the time, and at times many.
func chanceInt(r *rand.Rand) Int {
	most := []int{2, 4, 4, 10, 10, 30, 120, 400}[r.Intn(8)]
	return intOf(r.Intn(2) == 0, chance(r, r.Intn(most)))
}

// pieces are words at which carries, borrows and guesses turn.
func pieces() []uint64 {
	return []uint64{0, 1, 1<<63 - 1, 1 << 63, 1<<64 - 2, 1<<64 - 1}
}

// all are the numbers of so many of these words.
func all(words int) []nat {
	out := []nat{nil}
	for range words {
		var next []nat
		for _, x := range out {
			for _, w := range pieces() {
				next = append(next, append(append(nat(nil), x...), w))
			}
		}
		out = next
	}
	for i, x := range out {
		out[i] = trimmed(x)
	}
	return out
}
