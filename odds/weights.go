package odds

import (
	"iter"
	"slices"

	"astragal/api"
	"astragal/whole"
)

// check returns the error of the first list of weights that has one.
func check(lists ...[]int) api.Errno {
	for _, w := range lists {
		if len(w) > api.MaxOutcomes {
			return api.ErrLong
		}
		// Each weight first: the sum of what passes can not overflow.
		if slices.ContainsFunc(w, whole.Outside(0, api.MaxNumber)) || whole.Outside(1, api.MaxNumber)(total(w)) {
			return api.ErrArg
		}
	}
	return api.OK
}

// checkSome returns the error of a list of weights and of some of its outcomes.
func checkSome(w []int, outcomes []int) api.Errno {
	if e := check(w); e != api.OK {
		return e
	}
	last := -1
	wrong := func(k int) bool {
		before := last
		last = k
		return k <= before || k >= len(w)
	}
	if slices.ContainsFunc(outcomes, wrong) {
		return api.ErrArg
	}
	return api.OK
}

// sums yields each outcome with the sum of the weights up to it.
func sums(w []int) iter.Seq2[int, int] {
	return func(yield func(int, int) bool) {
		sum := 0
		for k, x := range w {
			sum += x
			if !yield(k, sum) {
				return
			}
		}
	}
}

// total returns the sum of weights.
func total(w []int) int {
	all := 0
	for _, sum := range sums(w) {
		all = sum
	}
	return all
}

// only returns the weights of some outcomes, and 0 for all others.
func only(w []int, outcomes []int) []int {
	l := make([]int, len(w))
	for _, k := range outcomes {
		l[k] = w[k]
	}
	return l
}
