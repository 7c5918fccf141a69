package house

import (
	"iter"
	"slices"

	"astragal/api"
	"astragal/shield"
)

const lines = 4 // of a figure

// Partner returns the partner of a house, and how both go together.
func Partner(h api.Houses, house int) (partner int, how api.Company, e api.Errno) {
	c, e := enter(h, house)
	if e != api.OK {
		return 0, 0, e
	}
	partner = house - 1
	if house%2 == 1 {
		partner = house + 1
	}
	return partner, company(c.figure(house), c.figure(partner)), api.OK
}

// Fortune returns how many marks all houses have, and the house of the part of fortune.
func Fortune(h api.Houses) (marks, house int, e api.Errno) {
	if e := Check(h); e != api.OK {
		return 0, 0, e
	}
	for _, f := range h {
		for line := range lines {
			marks += drawn(f, line)
		}
	}
	return marks, (marks-1)%houses + 1, api.OK
}

// Judge returns what is said of two houses.
func Judge(h api.Houses, a, b int) (api.Verdict, api.Errno) {
	c, e := enter(h, a, b)
	if e != api.OK {
		return 0, e
	}
	return c.judge(a, b), api.OK
}

// Least returns the verdict of two houses if some marks of a copy may be wrong: the best and the worst one.
func Least(h api.Houses, a, b int) (best, worst api.Verdict, e api.Errno) {
	c, e := enter(h, a, b)
	if e != api.OK {
		return 0, 0, e
	}
	best = c.judge(a, b)
	worst = best
	for changed := range changes(h) {
		v := joined(changed).judge(a, b)
		best, worst = min(best, v), max(worst, v)
	}
	return best, worst, api.OK
}

// company returns how partners with two figures go together.
func company(f, g api.Figure) api.Company {
	// All other ways need other figures: no figure is its own opposite.
	if f == g {
		return api.Simple
	}
	how := api.Company(0)
	if rulers[f] == rulers[g] {
		how |= api.DemiSimple
	}
	if opposite, _ := shield.Opposite(f); opposite == g {
		how |= api.Compound
	}
	if drawn(f, 0) == drawn(g, 0) {
		how |= api.Capitular
	}
	return how
}

// drawn returns how many marks a line of a figure has.
func drawn(f api.Figure, line int) int {
	marks, _ := shield.Marks(f)
	return marks[line]
}

// judge returns what is said of two houses.
func (c circle) judge(a, b int) api.Verdict {
	ties, aspects := c.ties(a, b), c.aspects(a, b)
	near := func(t api.Tie) bool { return t.Kind == api.Occupation || t.Kind == api.Conjunction }
	hard := func(s api.Aspect) bool { return s.Kind == api.Square || s.Kind == api.Opposition }
	switch {
	case slices.ContainsFunc(ties, near):
		return api.Granted
	case len(ties) > 0:
		return api.Helped
	case len(aspects) > 0 && !slices.ContainsFunc(aspects, hard):
		return api.Hardly
	}
	return api.Denied
}

// changes yields all houses that have one mark of one figure changed.
func changes(h api.Houses) iter.Seq[api.Houses] {
	return func(yield func(api.Houses) bool) {
		for i := range h {
			for line := range lines {
				changed := h
				changed[i] ^= 1 << line
				if !yield(changed) {
					return
				}
			}
		}
	}
}
