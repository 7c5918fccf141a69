package odds

import (
	"slices"

	"astragal/api"
	"astragal/whole"
)

// Join returns the weights of pairs of outcomes.
func Join(a, b []int) ([]int, api.Errno) {
	if e := checkPair(a, b, len(a)*len(b)); e != api.OK {
		return nil, e
	}
	joined := make([]int, 0, len(a)*len(b))
	for _, x := range a {
		for _, y := range b {
			joined = append(joined, x*y)
		}
	}
	return joined, api.OK
}

// Sum returns the weights of the sum of two outcomes.
func Sum(a, b []int) ([]int, api.Errno) {
	if e := checkPair(a, b, len(a)+len(b)-1); e != api.OK {
		return nil, e
	}
	summed := make([]int, len(a)+len(b)-1)
	for i, x := range a {
		for j, y := range b {
			summed[i+j] += x * y
		}
	}
	return summed, api.OK
}

// checkPair returns the error of two lists of which a list with so many outcomes is made, each weight of the one times each of the other.
func checkPair(a, b []int, outcomes int) api.Errno {
	if e := check(a, b); e != api.OK {
		return e
	}
	if outcomes > api.MaxOutcomes {
		return api.ErrLong
	}
	_, e := whole.Product(total(a), total(b), api.ErrOver)
	return e
}

// Repeat returns the weights of the sum of so many outcomes.
func Repeat(w []int, times int) ([]int, api.Errno) {
	if e := check(w); e != api.OK {
		return nil, e
	}
	if whole.Outside(0, api.MaxTimes)(times) {
		return nil, api.ErrRange
	}
	// The length goes ahead of the sum: a sum that is too great may come up earlier below.
	if times*(len(w)-1)+1 > api.MaxOutcomes {
		return nil, api.ErrLong
	}
	repeated := []int{1}
	for range times {
		var e api.Errno
		if repeated, e = Sum(repeated, w); e != api.OK {
			return nil, e
		}
	}
	return repeated, api.OK
}

// Mix returns the weights of outcomes if a case is chosen first.
func Mix(cases []int, lists [][]int) ([]int, api.Errno) {
	if e := checkMix(cases, lists); e != api.OK {
		return nil, e
	}
	cases = whole.Lowest(cases)
	chosen := canBeChosen(cases, lists)
	common, e := commonSum(chosen)
	if e != api.OK {
		return nil, e
	}
	if _, e := whole.Product(total(cases), common, api.ErrOver); e != api.OK {
		return nil, e
	}
	mixed := make([]int, len(lists[0]))
	for c, l := range chosen { // in any order: sums do not depend on it
		factor := cases[c] * (common / total(l))
		for k, x := range l {
			mixed[k] += factor * x
		}
	}
	return whole.Lowest(mixed), api.OK
}

// checkMix returns the error of cases and of their lists, except for too great sums.
func checkMix(cases []int, lists [][]int) api.Errno {
	if e := check(cases); e != api.OK {
		return e
	}
	if len(lists) != len(cases) {
		return api.ErrArg
	}
	if e := check(lists...); e != api.OK {
		return e
	}
	if slices.ContainsFunc(lists, func(l []int) bool { return len(l) != len(lists[0]) }) {
		return api.ErrArg
	}
	return api.OK
}

// canBeChosen returns the lists, in lowest terms, whose cases have a weight above 0, by their cases.
func canBeChosen(cases []int, lists [][]int) map[int][]int {
	chosen := map[int][]int{}
	for c, x := range cases {
		if x > 0 {
			chosen[c] = whole.Lowest(lists[c])
		}
	}
	return chosen
}

// commonSum returns the least number of which the sums of all lists are divisors, or ErrOver.
func commonSum(lists map[int][]int) (int, api.Errno) {
	common := 1
	for _, l := range lists {
		var e api.Errno
		// In any order: the number never becomes less, so it is too great in the end if it is once.
		if common, e = whole.Multiple(common, total(l), api.ErrOver); e != api.OK {
			return 0, e
		}
	}
	return common, api.OK
}

// Apart returns the greatest difference of the chances of any set of outcomes.
func Apart(a, b []int) (api.Chance, api.Errno) {
	if e := check(a, b); e != api.OK {
		return api.Chance{}, e
	}
	if len(a) != len(b) {
		return api.Chance{}, api.ErrArg
	}
	a, b = whole.Lowest(a), whole.Lowest(b)
	sumA, sumB := total(a), total(b)
	den, e := whole.Product(sumA, sumB, api.ErrOver)
	if e != api.OK {
		return api.Chance{}, e
	}
	// The set with the greatest difference is that of all outcomes which are more likely in a.
	more := 0
	for k := range a {
		more += max(0, a[k]*sumB-b[k]*sumA)
	}
	return fraction(more, den), api.OK
}
