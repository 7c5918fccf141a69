package odds_test

import (
	"math/big"
	"slices"
	"strconv"

	"astragal/api"
)

// part returns a chance.
func part(num, den int) api.Chance { return api.Chance{Num: num, Den: den} }

// filled returns a list of n equal numbers.
func filled(n, x int) []int { return slices.Repeat([]int{x}, n) }

// counted returns the list of the numbers from 0 to n - 1.
func counted(n int) []int {
	l := make([]int, n)
	for k := range l {
		l[k] = k
	}
	return l
}

// smallLists returns all valid lists of 1 to longest weights up to most.
func smallLists(longest, most int) [][]int {
	var lists [][]int
	for n := 1; n <= longest; n++ {
		for l := range allLists(n, most+1) {
			if slices.Max(l) > 0 {
				lists = append(lists, slices.Clone(l))
			}
		}
	}
	return lists
}

// allLists yields all lists of n numbers below sides, in one piece of memory.
func allLists(n, sides int) func(func([]int) bool) {
	return func(yield func([]int) bool) {
		l := make([]int, n)
		for {
			if !yield(l) {
				return
			}
			k := n - 1
			for k >= 0 && l[k] == sides-1 {
				l[k] = 0
				k--
			}
			if k < 0 {
				return
			}
			l[k]++
		}
	}
}

// noise returns numbers from 0 to most that follow no simple rule, and the same ones for the same seed.
func noise(seed uint64) func(most int) int {
	return func(most int) int {
		seed = seed*6364136223846793005 + 1442695040888963407
		return int((seed >> 16) % uint64(most+1))
	}
}

// noiseList returns a valid list of n weights up to most.
func noiseList(next func(int) int, n, most int) []int {
	l := make([]int, n)
	for k := range l {
		l[k] = next(most)
	}
	l[next(n-1)] += 1
	return l
}

// ratio returns a chance as a fraction of the library.
func ratio(c api.Chance) *big.Rat { return big.NewRat(int64(c.Num), int64(c.Den)) }

// share returns the chance of an outcome as a fraction of the library.
func share(w []int, k int) *big.Rat {
	sum := new(big.Int)
	for _, x := range w {
		sum.Add(sum, big.NewInt(int64(x)))
	}
	return new(big.Rat).SetFrac(big.NewInt(int64(w[k])), sum)
}

// ok returns the result of a call that must not have an error; a panic shows which call had one.
func ok[T any](x T, e api.Errno) T {
	if e != api.OK {
		panic("error " + strconv.Itoa(int(e)))
	}
	return x
}
