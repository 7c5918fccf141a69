package odds

import (
	"cmp"
	"math/bits"
)

// wide is a number of two words, the higher one first: the product of two numbers up to MaxNumber does not fit in one.
type wide [2]uint64

// wideProduct returns a * b.
func wideProduct(a, b int) wide {
	high, low := bits.Mul64(uint64(a), uint64(b))
	return wide{high, low}
}

// plus returns a + b.
func (a wide) plus(b wide) wide {
	low, carry := bits.Add64(a[1], b[1], 0)
	high, _ := bits.Add64(a[0], b[0], carry)
	return wide{high, low}
}

// compare returns -1, 0 or 1 if a is less than, equal to, or greater than b.
func (a wide) compare(b wide) int {
	return cmp.Or(cmp.Compare(a[0], b[0]), cmp.Compare(a[1], b[1]))
}

// modulo returns a modulo n, which is above 0.
func (a wide) modulo(n int) int {
	return int(bits.Rem64(a[0], a[1], uint64(n)))
}

// divided returns a / n, which must fit in one word.
func (a wide) divided(n int) int {
	quotient, _ := bits.Div64(a[0], a[1], uint64(n))
	return int(quotient)
}
