package witness

import (
	"slices"

	"astragal/api"
)

// has reports whether a drawing has a person.
func (d *Drawing) has(person int) bool { return among(person, 1, len(d.parts)) }

// all reports whether a condition holds for the parts of all persons.
func (d *Drawing) all(is func(part) bool) bool {
	return !slices.ContainsFunc(d.parts, func(p part) bool { return !is(p) })
}

// over reports whether a drawing is over.
func (d *Drawing) over() bool {
	return d.closed > 0 || d.all(func(p part) bool { return p.open > 0 })
}

// opening reports whether boxes can be opened: all are sealed, and the drawing is not over.
func (d *Drawing) opening() bool {
	return d.all(func(p part) bool { return p.seal > 0 }) && !d.over()
}

// deviants yields who deviates, ordered by persons.
func (d *Drawing) deviants(yield func(api.Deviant) bool) {
	for k, p := range d.parts {
		x := api.Deviant{Person: k + 1, Seal: p.seal}
		switch {
		case p.open > 0 && !p.right:
			x.Kind, x.Line = api.WrongBox, p.open
		case p.open == 0 && d.closed > 0:
			x.Kind, x.Line = api.NoBox, d.closed
		default:
			continue
		}
		if !yield(x) {
			return
		}
	}
}

// honest reports whether nobody deviates.
func (d *Drawing) honest() bool {
	for range d.deviants {
		return false
	}
	return true
}
