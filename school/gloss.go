package school

import (
	"slices"

	"astragal/api"
)

// Gloss returns the first chart with which a commentary is wrong.
func Gloss(s api.School, kind int, cases []api.SchoolCase) (chart, at int, fault api.GlossFault, e api.Errno) {
	r, e := enter(s)
	if e != api.OK {
		return 0, 0, 0, e
	}
	if !isKind(s, kind) {
		return 0, 0, 0, api.ErrNone
	}
	if len(cases) > api.MaxCases {
		return 0, 0, 0, api.ErrLong
	}
	invalid := func(c api.SchoolCase) bool { return !validTests(s, c.When) || !isAnswer(s, c.Says) }
	if slices.ContainsFunc(cases, invalid) {
		return 0, 0, 0, api.ErrForm
	}
	chart = r.first(func(figures []int) bool {
		at, fault = r.fault(figures, kind, cases)
		return fault != 0
	})
	return chart, at, fault, api.OK
}

// fault returns what is wrong with a commentary for one chart, and the case; -1 and 0 if nothing is.
func (r reader) fault(chart []int, kind int, cases []api.SchoolCase) (at int, fault api.GlossFault) {
	at = -1
	for number, c := range cases {
		if !meets(chart, c.When) {
			continue
		}
		if at >= 0 {
			return number, api.GlossTwice
		}
		at = number
	}
	if at < 0 {
		return -1, api.GlossForgotten
	}
	// The set of just one answer is that of a chart that is read as said.
	if r.read(chart, kind).answers != 1<<cases[at].Says {
		return at, api.GlossWrong
	}
	return -1, 0
}
