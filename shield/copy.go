package shield

import (
	"math/bits"
	"slices"

	"astragal/api"
	"astragal/whole"
)

// Wrong returns the places whose figure does not follow from those from which it is derived.
func Wrong(s api.Shield) ([]int, api.Errno) {
	if e := check(s[:]...); e != api.OK {
		return nil, e
	}
	var wrong []int
	for place := daughters; place < places; place++ {
		if s[place] != following(&s, place) {
			wrong = append(wrong, place)
		}
	}
	return wrong, api.OK
}

// Mend returns how few marks of a copy can be wrong, and the charts that it can be a copy of.
func Mend(s api.Shield) (api.Repair, api.Errno) {
	if e := check(s[:]...); e != api.OK {
		return api.Repair{}, e
	}
	r := api.Repair{Marks: lines*places + 1}
	for _, chart := range charts {
		switch marks := differing(&s, &chart); {
		case marks < r.Marks:
			r = api.Repair{Marks: marks, Charts: 1, Shield: chart}
		case marks == r.Marks:
			r.Charts++
		}
	}
	return r, api.OK
}

// Count returns how many charts have a figure of a set at each place, and the first one.
func Count(sets [16]api.FigureSet) (int, api.Mothers, api.Errno) {
	if slices.ContainsFunc(sets[:], whole.Outside(0, api.EveryFigure)) {
		return 0, api.Mothers{}, api.ErrArg
	}
	n, first := 0, api.Mothers{}
	for m, chart := range charts {
		if !within(&sets, &chart) {
			continue
		}
		if n == 0 {
			first = m
		}
		n++
	}
	return n, first, api.OK
}

// Way returns the way of a line with one mark from the judge to a mother or a daughter.
func Way(s api.Shield, line int) ([]int, api.Errno) {
	if e := check(s[:]...); e != api.OK {
		return nil, e
	}
	if whole.Outside(0, lines-1)(line) {
		return nil, api.ErrRange
	}
	if derived(api.Mothers{s[0], s[1], s[2], s[3]}) != s {
		return nil, api.ErrWrong
	}
	if !single(s[judge], line) {
		return nil, api.ErrNone
	}
	way := []int{judge}
	for place := judge; place >= nieces; {
		of := parents[place-nieces]
		place = of[0]
		// A line with one mark comes from just one of two figures.
		if !single(s[place], line) {
			place = of[1]
		}
		way = append(way, place)
	}
	return way, api.OK
}

// differing returns in how many marks a copy differs from a chart.
func differing(s, chart *api.Shield) int {
	marks := 0
	for place, f := range s {
		marks += bits.OnesCount(uint(f ^ chart[place]))
	}
	return marks
}

// within reports whether a chart has a figure of the set of each place.
func within(sets *[16]api.FigureSet, chart *api.Shield) bool {
	for place, f := range chart {
		if sets[place]>>f&1 == 0 {
			return false
		}
	}
	return true
}
