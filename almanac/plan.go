package almanac

import (
	"slices"

	"astragal/api"
)

// Plan returns days for drawings, not too near to each other and not too far apart.
func Plan(a api.Almanac, rules []api.DayRule, days, gap [2]int, turns int) ([]int, api.Errno) {
	if e := checkRules(a, rules); e != api.OK {
		return nil, e
	}
	if !isSpan(days[0], days[1]) || !isGap(gap) || !among(turns, 1, api.MaxTurns) {
		return nil, api.ErrRange
	}
	starts := planStarts(slices.Collect(allowed(a, days[0], days[1], rules)), gap, turns)
	if len(starts[turns-1]) == 0 {
		return nil, api.ErrNone
	}
	var plan []int
	from := days[0]
	for _, l := range slices.Backward(starts) {
		// There is one, and not too far apart: otherwise no plan would begin with the day before.
		k, _ := slices.BinarySearch(l, from)
		plan = append(plan, l[k])
		from = l[k] + gap[0]
	}
	return plan, api.OK
}

// isGap reports whether days that follow each other can be so far apart, at least and at most.
func isGap(gap [2]int) bool {
	return among(gap[0], 1, api.MaxSpan) && among(gap[1], gap[0], api.MaxSpan)
}

// planStarts returns, for each number of turns from 1 on, the days with which a plan of so many turns can begin, in ascending order.
func planStarts(days []int, gap [2]int, turns int) [][]int {
	starts := [][]int{days}
	for len(starts) < turns {
		next := starts[len(starts)-1]
		var l []int
		for _, day := range days {
			if k, _ := slices.BinarySearch(next, day+gap[0]); k < len(next) && next[k] <= day+gap[1] {
				l = append(l, day)
			}
		}
		starts = append(starts, l)
	}
	return starts
}
