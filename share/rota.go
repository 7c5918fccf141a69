package share

import (
	"slices"

	"astragal/api"
)

// Due returns who must serve next, and who may.
func Due(r api.Rota) (must, may []int, many int, e api.Errno) {
	if !validRota(r) {
		return nil, nil, 0, api.ErrArg
	}
	must, may = due(r)
	return must, may, ways(len(may), r.Seats-len(must)), api.OK
}

// Serve returns who serves next, by a number.
func Serve(r api.Rota, number int) ([]int, api.Errno) {
	must, may, many, e := Due(r)
	if e != api.OK {
		return nil, e
	}
	if !among(number, 0, many-1) {
		return nil, api.ErrNone
	}
	drawing := must
	// The order of the drawings is that of the others alone: whoever is in all of them does not decide which of two is less.
	for others := range choices(may, r.Seats-len(must)) {
		if number == 0 {
			drawing = append(drawing, others...)
			break
		}
		number--
	}
	slices.Sort(drawing)
	return drawing, api.OK
}

// Fair returns the first past drawing that was not allowed.
func Fair(r api.Rota) (int, api.Errno) {
	if !validRota(r) {
		return 0, api.ErrArg
	}
	return first(len(r.Past), func(k int) bool {
		return !isAllowed(r.Past[k], served(r.Past[:k], r.Persons))
	}), api.OK
}

// due returns who is in all drawings that are allowed next, and who is in some of them alone.
func due(r api.Rota) (must, may []int) {
	times := served(r.Past, r.Persons)
	last := slices.Sorted(slices.Values(times))[r.Seats-1]
	for person, n := range times {
		if n < last {
			must = append(must, person)
		} else if n == last {
			may = append(may, person)
		}
	}
	if len(must)+len(may) == r.Seats {
		// There is no choice among those who have served equally often.
		must = slices.Concat(must, may)
		slices.Sort(must)
		return must, nil
	}
	return must, may
}

// served returns how often each of so many persons is in drawings.
func served(drawings [][]int, persons int) []int {
	times := make([]int, persons)
	for _, person := range slices.Concat(drawings...) {
		times[person]++
	}
	return times
}

// isAllowed reports whether a drawing is allowed when its persons and all others have served so often.
func isAllowed(drawing, times []int) bool {
	return !slices.ContainsFunc(drawing, func(drawn int) bool {
		return first(len(times), func(other int) bool {
			return !slices.Contains(drawing, other) && times[drawn] > times[other]
		}) >= 0
	})
}
