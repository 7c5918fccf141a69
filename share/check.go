package share

import (
	"slices"

	"astragal/api"
	"astragal/whole"
)

// validDraw reports whether a drawing is valid.
func validDraw(d api.ShareDraw) bool {
	return among(len(d.Limits), 1, api.MaxShare) &&
		!slices.ContainsFunc(d.Limits, whole.Outside(0, api.MaxOffices)) &&
		among(len(d.Offices), 1, api.MaxOffices) && validOffices(d) &&
		len(d.Groups) <= api.MaxGroups && validGroups(d)
}

// validOffices reports whether all offices of a drawing are valid.
func validOffices(d api.ShareDraw) bool {
	invalid := func(o api.ShareOffice) bool {
		return !among(o.Seats, 1, api.MaxSeats) || !isSet(o.Can, len(d.Limits))
	}
	return !slices.ContainsFunc(d.Offices, invalid)
}

// validGroups reports whether all groups of a drawing are valid.
func validGroups(d api.ShareDraw) bool {
	grouped := 0
	for _, g := range d.Groups {
		if !isSet(g.Members, len(d.Limits)) || g.Members&grouped != 0 || !among(g.Most, 0, api.MaxOffices*api.MaxSeats) {
			return false
		}
		grouped |= g.Members
	}
	return true
}

// isForm reports whether an assignment has the form of those of a valid drawing, whether or not it obeys the rules.
func isForm(d api.ShareDraw, a [][]int) bool {
	wrong := func(list []int) bool {
		return len(list) > api.MaxShare || slices.ContainsFunc(list, whole.Outside(0, len(d.Limits)-1))
	}
	return len(a) == len(d.Offices) && !slices.ContainsFunc(a, wrong)
}

// validMachine reports whether a machine is valid.
func validMachine(m api.ShareMachine) bool {
	invalid := func(column []int) bool {
		return len(column) > api.MaxRows || slices.ContainsFunc(column, whole.Outside(0, api.MaxNumber))
	}
	if !among(len(m.Columns), 1, api.MaxColumns) || slices.ContainsFunc(m.Columns, invalid) {
		return false
	}
	tickets := slices.Concat(m.Columns...)
	slices.Sort(tickets)
	return isAscending(tickets)
}

// validRota reports whether a rota is valid.
func validRota(r api.Rota) bool {
	invalid := func(drawing []int) bool {
		return len(drawing) != r.Seats || !isAscending(drawing) || slices.ContainsFunc(drawing, whole.Outside(0, r.Persons-1))
	}
	return among(r.Persons, 1, api.MaxRota) && among(r.Seats, 1, min(api.MaxTurn, r.Persons)) &&
		len(r.Past) <= api.MaxPast && !slices.ContainsFunc(r.Past, invalid)
}

// among reports whether a number is from low to high.
func among(n, low, high int) bool { return !whole.Outside(low, high)(n) }
