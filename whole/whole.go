// Package whole has what several layers need of whole numbers.
package whole

import "astragal/api"

// Outside returns the condition that a number is not from low to high.
func Outside[T ~int](low, high T) func(T) bool {
	return func(n T) bool { return n < low || n > high }
}

// Divisor returns the greatest number that divides all numbers, none of which is below 0; 0 if all of them are 0.
func Divisor(numbers ...int) int {
	by := 0
	for _, n := range numbers {
		for n != 0 {
			by, n = n, by%n
		}
	}
	return by
}

// Lowest returns numbers, none of which is below 0 and not all of which are 0, divided by the greatest number that divides them all.
func Lowest(numbers []int) []int {
	by := Divisor(numbers...)
	l := make([]int, len(numbers))
	for k, n := range numbers {
		l[k] = n / by
	}
	return l
}

// Product returns a * b, both of which are above 0, or the error over if it is above MaxNumber.
func Product(a, b int, over api.Errno) (int, api.Errno) {
	// Not multiplied at first: the product could overflow.
	if a > api.MaxNumber/b {
		return 0, over
	}
	return a * b, api.OK
}

// Multiple returns the least number of which a and b, both above 0, are divisors, or the error over if it is above MaxNumber.
func Multiple(a, b int, over api.Errno) (int, api.Errno) {
	return Product(a, b/Divisor(a, b), over)
}
