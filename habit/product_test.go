package habit

import (
	"math"
	"math/big"
	"slices"
	"testing"
)

// bigOf returns a number as one of package big.
func bigOf(a number) *big.Int {
	all := new(big.Int)
	for _, word := range slices.Backward(a) {
		all.Lsh(all, 64).Add(all, new(big.Int).SetUint64(word))
	}
	return all
}

// numbers returns all numbers of up to three of some words, among them the greatest one, so that products carry over.
func numbers() []number {
	all, longest := []number{nil}, []number{nil}
	for range 3 {
		var longer []number
		for _, a := range longest {
			for _, word := range []uint64{0, 1, 1 << 63, math.MaxUint64, 0x123456789abcdef1} {
				b := append(slices.Clone(a), word)
				if longer = append(longer, b); word != 0 {
					all = append(all, b)
				}
			}
		}
		longest = longer
	}
	return all
}

// P9.4, P9.6: numbers of any size are multiplied and compared without a loss, and have no word 0 on top.
func TestNumbers(t *testing.T) {
	all := numbers()
	for _, a := range all {
		for _, b := range all {
			c, want := a.times(b), new(big.Int).Mul(bigOf(a), bigOf(b))
			if bigOf(c).Cmp(want) != 0 || len(c) != (want.BitLen()+63)/64 {
				t.Fatal(a, b, c, want)
			}
			if n := a.compare(b); n != bigOf(a).Cmp(bigOf(b)) {
				t.Fatal(a, b, n)
			}
		}
	}
}
