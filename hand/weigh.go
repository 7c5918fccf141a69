package hand

import (
	"astragal/api"
	"astragal/whole"
)

// weigh returns the weights of all outcomes of a valid hand, or ErrFull.
func weigh(h api.Hand) ([]int, api.Errno) {
	reached, all := map[state]int{start(h): 1}, 1
	for {
		common, e := commonChoices(h, reached)
		if e != api.OK {
			return nil, e
		}
		if common == 0 {
			return gathered(h, reached), api.OK
		}
		if all, e = whole.Product(all, common, api.ErrFull); e != api.OK {
			return nil, e
		}
		reached = spread(h, reached, common)
	}
}

// commonChoices returns the least number of which the numbers of choices of all states, which have as many steps behind them, are divisors: 0 if no step is left.
func commonChoices(h api.Hand, reached map[state]int) (int, api.Errno) {
	common := 1
	for s := range reached { // in any order: the number never becomes less, so it is too great in the end if it is once
		n := s.choices(h)
		if n == 0 {
			return 0, api.OK
		}
		var e api.Errno
		if common, e = whole.Multiple(common, n, api.ErrFull); e != api.OK {
			return 0, e
		}
	}
	return common, api.OK
}

// spread returns the weights of the states after the next step, all of them to the denominator that is common times that of before.
func spread(h api.Hand, reached map[state]int, common int) map[state]int {
	next := map[state]int{}
	for s, w := range reached {
		each := w * (common / s.choices(h))
		for to, n := range s.branches(h) {
			next[to] += n * each
		}
	}
	return next
}

// gathered returns the weights of all outcomes in lowest terms, by those of the states of complete courses.
func gathered(h api.Hand, complete map[state]int) []int {
	weights := make([]int, outcomes(h))
	for s, w := range complete { // in any order: sums do not depend on it
		weights[s.outcome(h)] += w
	}
	return whole.Lowest(weights)
}
