package almanac

import (
	"astragal/api"
	"astragal/whole"
)

// Position returns the position of a day in a cycle.
func Position(c api.Cycle, day int) (int, api.Errno) {
	if !validCycle(c) {
		return 0, api.ErrArg
	}
	if !isDay(day) {
		return 0, api.ErrRange
	}
	return position(c, day), api.OK
}

// Meet returns the first day from some day on that has some positions in cycles, and after how many days it is so again.
func Meet(cycles []api.Cycle, positions []int, from int) (day, period int, e api.Errno) {
	if len(cycles) > api.MaxCycles {
		return 0, 0, api.ErrLong
	}
	if !validCycles(cycles) {
		return 0, 0, api.ErrArg
	}
	if !arePositions(cycles, positions) {
		return 0, 0, api.ErrForm
	}
	if !isDay(from) {
		return 0, 0, api.ErrRange
	}
	day, period = from, 1
	for k, c := range cycles {
		if day = advanced(c, positions[k], day, period); day > api.MaxDay {
			return 0, 0, api.ErrNone
		}
		period = multiple(period, c.Length)
	}
	return day, period, api.OK
}

// arePositions reports whether numbers are positions, one for each cycle.
func arePositions(cycles []api.Cycle, positions []int) bool {
	if len(positions) != len(cycles) {
		return false
	}
	for k, c := range cycles {
		if !among(positions[k], 0, c.Length-1) {
			return false
		}
	}
	return true
}

// advanced returns the first of the days that follow each other by a step, from a day on, that has a position in a cycle, or a number above MaxDay if no day has it.
func advanced(c api.Cycle, wanted, day, step int) int {
	// After as many steps as the cycle is long, the positions are those again.
	for range c.Length {
		if position(c, day) == wanted {
			return day
		}
		day += step
	}
	return api.MaxDay + 1
}

// position returns the position of a day in a valid cycle.
func position(c api.Cycle, day int) int {
	// Length is added as the day can be before Start.
	return (day + c.Length - c.Start) % c.Length
}

// multiple returns the least number above 0 that all of these divide; 0 if one of them is 0.
func multiple(numbers ...int) int {
	all := 1
	for _, n := range numbers {
		if n == 0 {
			return 0
		}
		// No overflow: the greatest ones are 8 lengths of cycles, and 3 numbers of a rule for years.
		all *= n / whole.Divisor(all, n)
	}
	return all
}
