package hexagram

import (
	"math/bits"
	"slices"

	"astragal/api"
	"astragal/whole"
)

const (
	leastKinds = 10  // elements of weights of lines, at least
	mostKinds  = 20  // at most
	mostSum    = 316 // its sixth power is the greatest one that is not above MaxNumber
)

// Figures returns the weights of the first hexagrams.
func Figures(w []int) ([]int, api.Errno) {
	return weigh(w, api.MaxHexagram+1, func(first, second int) int { return first })
}

// Changes returns the weights of both hexagrams.
func Changes(w []int) ([]int, api.Errno) {
	return weigh(w, (api.MaxHexagram+1)*(api.MaxHexagram+1), func(first, second int) int { return first<<height | second })
}

// Moving returns the weights of how many lines move.
func Moving(w []int) ([]int, api.Errno) {
	return weigh(w, height+1, func(first, second int) int { return bits.OnesCount(uint(first ^ second)) })
}

// weigh returns how much the pairs of hexagrams weigh that have each of n places.
func weigh(w []int, n int, place func(first, second int) int) ([]int, api.Errno) {
	if e := checkLines(w); e != api.OK {
		return nil, e
	}
	weights := make([]int, n)
	for first := range api.MaxHexagram + 1 {
		for second := range api.MaxHexagram + 1 {
			weights[place(first, second)] += weight(w, first, second)
		}
	}
	return whole.Lowest(weights), api.OK
}

// checkLines returns the error of weights of lines.
func checkLines(w []int) api.Errno {
	if whole.Outside(leastKinds, mostKinds)(len(w)) || slices.ContainsFunc(w, func(n int) bool { return n < 0 }) {
		return api.ErrArg
	}
	some := func(n int) bool { return n != 0 }
	cast := w[yieldingMoves : firmMoves+1]
	if slices.ContainsFunc(w[:yieldingMoves], some) || slices.ContainsFunc(w[firmMoves+1:], some) || !slices.ContainsFunc(cast, some) {
		return api.ErrArg
	}
	left := mostSum
	for _, n := range cast {
		// Not added up: the sum could overflow.
		if n > left {
			return api.ErrHeavy
		}
		left -= n
	}
	return api.OK
}

// weight returns the weight of a pair of hexagrams: that of all its lines.
func weight(w []int, first, second int) int {
	all := 1
	for line := range height {
		all *= w[cast(first, second, line)]
	}
	return all
}
