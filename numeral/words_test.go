package numeral

import (
	"encoding/binary"
	"math/big"
	"math/rand"
	"slices"
	"testing"
)

// No text is known that lies so near to what is half way between two numbers that only what a division leaves over tells; that it is told is tested here.

func bigOf(words []uint32) *big.Int {
	var bytes []byte
	for _, word := range slices.Backward(words) {
		bytes = binary.BigEndian.AppendUint32(bytes, word)
	}
	return new(big.Int).SetBytes(bytes)
}

// P7.4: rounded once, whatever is left over.
func TestDividedTellsWhatIsLeft(t *testing.T) {
	r := rand.New(rand.NewSource(20))
	exact := 0
	for range 3000 {
		words := make([]uint32, 1+r.Intn(6))
		for i := range words {
			words[i] = r.Uint32() >> r.Intn(32)
		}
		n := r.Intn(60)
		if r.Intn(3) == 0 {
			words = multiplied(words, 5, max(n-r.Intn(2), 0))
		}
		above, by := bigOf(words), new(big.Int).Exp(big.NewInt(5), big.NewInt(int64(n)), nil)
		q, low := divided(slices.Clone(words), 5, n)
		want, rest := new(big.Int).DivMod(new(big.Int).Lsh(above, uint(low)), by, new(big.Int))
		if rest.Sign() != 0 {
			want.SetBit(want, 0, 1)
		} else {
			exact++
		}
		if got := bigOf(q); got.Cmp(want) != 0 || above.Sign() != 0 && got.BitLen() < 65 {
			t.Fatalf("%x / 5^%d: %x, want %x", words, n, got, want)
		}
	}
	if exact < 300 {
		t.Errorf("only %d quotients without a rest", exact)
	}
}
