package habit

import (
	"slices"

	"astragal/api"
	"astragal/odds"
	"astragal/whole"
)

// check returns the error of models and of a register, which fits any models if there are none.
func check(l []int, models ...api.Model) api.Errno {
	// The first model is found to be valid, or not, before another one is compared with it.
	wrong := func(m api.Model) bool { return !valid(m) || outcomes(m) != outcomes(models[0]) }
	if slices.ContainsFunc(models, wrong) {
		return api.ErrArg
	}
	if len(models) == 0 {
		return checkLength(l)
	}
	return checkRegister(l, outcomes(models[0]))
}

// checkRegister returns the error of a register with so many outcomes.
func checkRegister(l []int, outcomes int) api.Errno {
	if e := checkLength(l); e != api.OK {
		return e
	}
	if slices.ContainsFunc(l, whole.Outside(0, outcomes-1)) {
		return api.ErrArg
	}
	return api.OK
}

// checkLength returns the error of a register with any outcomes.
func checkLength(l []int) api.Errno {
	if len(l) > api.MaxCasts {
		return api.ErrLong
	}
	return api.OK
}

// checkBelief returns the error of a chance that is believed.
func checkBelief(x api.Chance) api.Errno {
	if _, e := odds.Not(x); e != api.OK {
		return e
	}
	if x.Den > api.MaxBelief {
		return api.ErrRange
	}
	return api.OK
}

// valid reports whether a model is valid.
func valid(m api.Model) bool {
	switch m.Kind {
	case api.Steady:
		return len(m.Rows) == 1 && validRows(m) && m.After == 0
	case api.Habitual:
		return len(m.Rows) > 0 && len(m.Rows) == outcomes(m)+1 && validRows(m) && m.After == 0
	case api.Stacked:
		return len(m.Rows) == 1 && validRows(m) && m.After >= 1 && m.After <= total(m.Rows[0])
	}
	return false
}

// validRows reports whether all rows of a model, which has one at least, are valid.
func validRows(m api.Model) bool {
	invalid := func(row []int) bool {
		return len(row) != outcomes(m) || len(row) > api.MaxHabit ||
			slices.ContainsFunc(row, whole.Outside(0, api.MaxWeight)) || odds.Check(row) != api.OK
	}
	return !slices.ContainsFunc(m.Rows, invalid)
}

// outcomes returns how many outcomes a model has.
func outcomes(m api.Model) int { return len(m.Rows[0]) }

// total returns the sum of a valid row.
func total(row []int) int {
	sum, _ := odds.Total(row)
	return sum
}
