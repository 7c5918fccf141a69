// Package odds counts: lists of weights, exact chances, and fair values from throws: see shared/doc/01-odds.md.
package odds

import (
	"slices"

	"astragal/api"
	"astragal/whole"
)

// Check returns the error of a list of weights.
func Check(w []int) api.Errno { return check(w) }

// Total returns the sum of a list of weights.
func Total(w []int) (int, api.Errno) {
	if e := check(w); e != api.OK {
		return 0, e
	}
	return total(w), api.OK
}

// Lowest returns weights divided by what divides them all.
func Lowest(w []int) ([]int, api.Errno) {
	if e := check(w); e != api.OK {
		return nil, e
	}
	return whole.Lowest(w), api.OK
}

// Same reports whether two lists of weights give all outcomes the same chances.
func Same(a, b []int) (bool, api.Errno) {
	if e := check(a, b); e != api.OK {
		return false, e
	}
	return slices.Equal(whole.Lowest(a), whole.Lowest(b)), api.OK
}

// Of returns the chance that the outcome is one of a list.
func Of(w []int, outcomes []int) (api.Chance, api.Errno) {
	if e := checkSome(w, outcomes); e != api.OK {
		return api.Chance{}, e
	}
	return fraction(total(only(w, outcomes)), total(w)), api.OK
}

// Given returns the weights of the outcomes of a list alone.
func Given(w []int, outcomes []int) ([]int, api.Errno) {
	if e := checkSome(w, outcomes); e != api.OK {
		return nil, e
	}
	given := only(w, outcomes)
	if total(given) == 0 {
		return nil, api.ErrNone
	}
	return given, api.OK
}

// Map returns the weights of what outcomes are mapped to.
func Map(w []int, to []int, n int) ([]int, api.Errno) {
	if e := check(w); e != api.OK {
		return nil, e
	}
	if whole.Outside(1, api.MaxOutcomes)(n) {
		return nil, api.ErrRange
	}
	if len(to) != len(w) || slices.ContainsFunc(to, whole.Outside(0, n-1)) {
		return nil, api.ErrArg
	}
	mapped := make([]int, n)
	for k, x := range w {
		mapped[to[k]] += x
	}
	return mapped, api.OK
}

// Pick returns the outcome that a value stands for.
func Pick(w []int, value int) (int, api.Errno) {
	if e := check(w); e != api.OK {
		return 0, e
	}
	if value < 0 {
		return 0, api.ErrRange
	}
	for k, sum := range sums(w) {
		if value < sum {
			return k, api.OK
		}
	}
	return 0, api.ErrRange
}
