package shield

import (
	"slices"

	"astragal/api"
	"astragal/whole"
)

// Where figures begin in a chart.
const (
	daughters = 4
	nieces    = 8
	judge     = 14
	places    = 16
)

// parents has the places of whose figures those from the nieces on are the sums.
var parents = [places - nieces][2]int{{0, 1}, {2, 3}, {4, 5}, {6, 7}, {8, 9}, {10, 11}, {12, 13}, {14, 0}}

// Cast returns the mothers of sixteen rows of marks.
func Cast(rows []int) (api.Mothers, api.Errno) {
	m := api.Mothers{}
	if len(rows) != len(m)*lines {
		return m, api.ErrLong
	}
	if slices.ContainsFunc(rows, whole.Outside(1, api.MaxRow)) {
		return m, api.ErrRange
	}
	for i := range m {
		m[i] = figure(func(line int) bool { return rows[i*lines+line]&1 == 1 })
	}
	return m, api.OK
}

// Number returns the number of mothers.
func Number(m api.Mothers) (int, api.Errno) {
	if e := check(m[:]...); e != api.OK {
		return 0, e
	}
	number := 0
	for _, f := range m {
		number = number<<lines | int(f)
	}
	return number, api.OK
}

// Mothers returns the mothers with a number.
func Mothers(number int) (api.Mothers, api.Errno) {
	if whole.Outside(0, api.Charts-1)(number) {
		return api.Mothers{}, api.ErrRange
	}
	return numbered(number), api.OK
}

// Derive returns the chart of mothers.
func Derive(m api.Mothers) (api.Shield, api.Errno) {
	if e := check(m[:]...); e != api.OK {
		return api.Shield{}, e
	}
	return derived(m), api.OK
}

// numbered returns the mothers with a number that there is.
func numbered(number int) api.Mothers {
	m := api.Mothers{}
	for i := range m {
		m[i] = api.Figure(number>>(lines*(len(m)-1-i))) & api.Via
	}
	return m
}

// derived returns the chart of mothers that are figures.
func derived(m api.Mothers) api.Shield {
	s := api.Shield{}
	copy(s[:], m[:])
	for place := daughters; place < places; place++ {
		s[place] = following(&s, place)
	}
	return s
}

// following returns the figure that follows, at a place from the daughters on, from those at the places of which it is derived.
func following(s *api.Shield, place int) api.Figure {
	if place < nieces {
		return figure(func(line int) bool { return single(s[line], place-daughters) })
	}
	of := parents[place-nieces]
	return sum(s[of[0]], s[of[1]])
}

// charts yields all mothers by their numbers, and their charts.
func charts(yield func(api.Mothers, api.Shield) bool) {
	for number := range api.Charts {
		m := numbered(number)
		if !yield(m, derived(m)) {
			return
		}
	}
}
