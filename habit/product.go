package habit

import (
	"cmp"
	"math/bits"
	"slices"

	"astragal/api"
)

// number is a whole number of any size: its words, the lowest one first, the highest one of which is not 0; the number 0 has none.
type number []uint64

// numberOf returns a number of one word.
func numberOf(n int) number {
	if n == 0 {
		return nil
	}
	return number{uint64(n)}
}

// times returns a * b.
func (a number) times(b number) number {
	if len(a) == 0 || len(b) == 0 {
		return nil
	}
	all := make(number, len(a)+len(b))
	for k, x := range a {
		all[k+len(b)] = b.addTo(all[k:k+len(b)], x)
	}
	if all[len(all)-1] == 0 {
		return all[:len(all)-1]
	}
	return all
}

// addTo adds a * x to as many words as a has, and returns the word that is carried over.
func (a number) addTo(words []uint64, x uint64) uint64 {
	over := uint64(0)
	for k, y := range a {
		high, low := bits.Mul64(x, y)
		sum, carry := bits.Add64(words[k], low, 0)
		high += carry
		sum, carry = bits.Add64(sum, over, 0)
		words[k], over = sum, high+carry
	}
	return over
}

// compare returns -1, 0 or 1 if a is less than, equal to, or greater than b.
func (a number) compare(b number) int {
	if len(a) != len(b) {
		return cmp.Compare(len(a), len(b))
	}
	for k, x := range slices.Backward(a) {
		if x != b[k] {
			return cmp.Compare(x, b[k])
		}
	}
	return 0
}

// product is the product of chances as it is, not in lowest terms: a fraction of numbers, the second one of which is not 0.
type product struct {
	num, den number
}

// one returns the product of no chances.
func one() product { return product{numberOf(1), numberOf(1)} }

// productOf returns the product of the chances of all casts of a register.
func productOf(m api.Model, l []int) product {
	p := one()
	for c := range casts(m, l) {
		p = p.then(c)
	}
	return p
}

// then returns p times a chance.
func (p product) then(c api.Chance) product {
	return p.times(product{numberOf(c.Num), numberOf(c.Den)})
}

// times returns p * q.
func (p product) times(q product) product {
	return product{p.num.times(q.num), p.den.times(q.den)}
}

// compare returns -1, 0 or 1 if p is less than, equal to, or greater than q.
func (p product) compare(q product) int {
	return p.num.times(q.den).compare(q.num.times(p.den))
}

// isZero reports whether p is 0.
func (p product) isZero() bool { return len(p.num) == 0 }
