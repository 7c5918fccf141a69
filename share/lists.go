package share

import (
	"iter"
	"math/bits"
)

// isSet reports whether an integer is a set of so many persons or offices.
func isSet(set, count int) bool { return among(set, 0, 1<<count-1) }

// has reports whether a person or an office is in a set.
func has(set, k int) bool { return set>>k&1 == 1 }

// members returns what is in a set, in ascending order.
func members(set int) []int {
	var l []int
	for rest := uint(set); rest != 0; rest &= rest - 1 {
		l = append(l, bits.TrailingZeros(rest))
	}
	return l
}

// isAscending reports whether a list is in strictly ascending order.
func isAscending(l []int) bool {
	for k := 1; k < len(l); k++ {
		if l[k-1] >= l[k] {
			return false
		}
	}
	return true
}

// first returns the first number from 0 to n - 1 that something is true of, or -1.
func first(n int, is func(int) bool) int {
	for k := range n {
		if is(k) {
			return k
		}
	}
	return -1
}

// choices yields all choices of so many elements of an ascending list, in ascending order. Each is good until the next one is asked for: they share their memory.
func choices(from []int, size int) iter.Seq[[]int] {
	return func(yield func([]int) bool) {
		choose(from, make([]int, 0, size), size, yield)
	}
}

// choose yields all choices of so many elements that begin with those chosen and go on with some of a list; it reports whether more are wanted.
func choose(from, chosen []int, size int, yield func([]int) bool) bool {
	if len(chosen) == size {
		return yield(chosen)
	}
	// An element with too few behind it begins no choice.
	for k := 0; size-len(chosen) <= len(from)-k; k++ {
		if !choose(from[k+1:], append(chosen, from[k]), size, yield) {
			return false
		}
	}
	return true
}

// ways returns how many choices of so many elements there are of a list with n.
func ways(n, size int) int {
	w := 1
	for k := range size {
		w = w * (n - k) / (k + 1)
	}
	return w
}
