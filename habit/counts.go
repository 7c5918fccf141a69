package habit

import (
	"slices"

	"astragal/api"
	"astragal/whole"
)

// Tally returns how often each outcome occurs, and each pair of one outcome behind another one.
func Tally(l []int, outcomes int) (counts, pairs []int, e api.Errno) {
	if whole.Outside(1, api.MaxHabit)(outcomes) {
		return nil, nil, api.ErrRange
	}
	if e := checkRegister(l, outcomes); e != api.OK {
		return nil, nil, e
	}
	pairs = make([]int, outcomes*outcomes)
	for k, outcome := range l {
		if k > 0 {
			pairs[l[k-1]*outcomes+outcome]++
		}
	}
	return counted(l, outcomes), pairs, api.OK
}

// Need returns the fewest cards of each outcome that a deck must have.
func Need(l []int, outcomes, after int) ([]int, api.Errno) {
	if whole.Outside(1, api.MaxHabit)(outcomes) || whole.Outside(1, api.MaxCasts)(after) {
		return nil, api.ErrRange
	}
	if e := checkRegister(l, outcomes); e != api.OK {
		return nil, e
	}
	need := make([]int, outcomes)
	for drawn := range slices.Chunk(l, after) {
		for outcome, n := range counted(drawn, outcomes) {
			need[outcome] = max(need[outcome], n)
		}
	}
	return need, api.OK
}

// counted returns how often each outcome occurs in a list.
func counted(l []int, outcomes int) []int {
	counts := make([]int, outcomes)
	for _, outcome := range l {
		counts[outcome]++
	}
	return counts
}

// Longest returns the longest run of equal outcomes, and how many runs there are.
func Longest(l []int) (start, length, runs int, e api.Errno) {
	if e := checkLength(l); e != api.OK {
		return 0, 0, 0, e
	}
	from := 0
	for k, outcome := range l {
		if k == 0 || outcome != l[k-1] {
			from = k
			runs++
		}
		if k+1-from > length {
			start, length = from, k+1-from
		}
	}
	return start, length, runs, api.OK
}
