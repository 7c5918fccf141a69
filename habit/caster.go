package habit

import (
	"iter"
	"slices"

	"astragal/api"
	"astragal/whole"
)

// caster casts by a model, and knows what has been cast.
type caster interface {
	// chance returns the chance that an outcome is cast next, in lowest terms.
	chance(outcome int) api.Chance
	// behind returns what casts behind an outcome that is cast next.
	behind(outcome int) caster
}

// steady casts by the same row, whatever has been cast.
type steady struct {
	row []int
	sum int
}

// by returns what casts by a row.
func by(row []int) steady { return steady{row, total(row)} }

func (s steady) chance(outcome int) api.Chance { return fraction(s.row[outcome], s.sum) }

func (s steady) behind(int) caster { return s }

// habitual casts by the row that belongs to the cast before.
type habitual struct {
	steady
	rows [][]int
}

func (h habitual) behind(outcome int) caster { return habitual{by(h.rows[outcome+1]), h.rows} }

// deck has as many cards of each outcome as its row says.
type deck struct {
	steady
	after int               // how many cards lie aside when it is put together
	aside int               // how many do so now
	drawn [api.MaxHabit]int // how many of each outcome
}

func (d deck) chance(outcome int) api.Chance {
	return fraction(max(0, d.row[outcome]-d.drawn[outcome]), d.sum-d.aside)
}

func (d deck) behind(outcome int) caster {
	if d.aside+1 == d.after {
		return deck{steady: d.steady, after: d.after}
	}
	d.aside++
	d.drawn[outcome]++
	return d
}

// start returns what casts by a valid model, ahead of the first cast.
func start(m api.Model) caster {
	first := by(m.Rows[0])
	switch m.Kind {
	case api.Habitual:
		return habitual{first, m.Rows}
	case api.Stacked:
		return deck{steady: first, after: m.After}
	}
	return first
}

// casts yields the chance of each cast of a register, given the casts before it.
func casts(m api.Model, l []int) iter.Seq[api.Chance] {
	return func(yield func(api.Chance) bool) {
		c := start(m)
		for _, outcome := range l {
			if !yield(c.chance(outcome)) {
				return
			}
			c = c.behind(outcome)
		}
	}
}

// chances returns what casts yields.
func chances(m api.Model, l []int) []api.Chance { return slices.Collect(casts(m, l)) }

// fraction returns num / den in lowest terms.
func fraction(num, den int) api.Chance {
	common := whole.Divisor(num, den)
	return api.Chance{Num: num / common, Den: den / common}
}
