package house

import (
	"cmp"
	"slices"

	"astragal/api"
)

// Ties returns the ties of two houses.
func Ties(h api.Houses, a, b int) ([]api.Tie, api.Errno) {
	c, e := enter(h, a, b)
	if e != api.OK {
		return nil, e
	}
	return c.ties(a, b), api.OK
}

// Aspects returns the aspects of the figure of a house to another house.
func Aspects(h api.Houses, a, b int) ([]api.Aspect, api.Errno) {
	c, e := enter(h, a, b)
	if e != api.OK {
		return nil, e
	}
	return c.aspects(a, b), api.OK
}

// ties returns all ties of two houses in their order.
func (c circle) ties(a, b int) []api.Tie {
	all := slices.Concat(c.occupations(a, b), c.conjunctions(a, b), c.mutations(a, b), c.translations(a, b))
	slices.SortFunc(all, func(t, u api.Tie) int {
		return cmp.Or(cmp.Compare(t.Kind, u.Kind), cmp.Compare(t.From, u.From), cmp.Compare(t.To, u.To))
	})
	return all
}

// occupations returns the tie of two houses that have the same figure.
func (c circle) occupations(a, b int) []api.Tie {
	if c.figure(a) != c.figure(b) {
		return nil
	}
	return []api.Tie{{Kind: api.Occupation, From: a, To: b}}
}

// conjunctions returns the ties by the figure of the one house next to the other one.
func (c circle) conjunctions(a, b int) []api.Tie {
	var ties []api.Tie
	for x := range beside(b) {
		if x != a && c.figure(x) == c.figure(a) {
			ties = append(ties, api.Tie{Kind: api.Conjunction, From: x, To: b})
		}
	}
	for x := range beside(a) {
		if x != b && c.figure(x) == c.figure(b) {
			ties = append(ties, api.Tie{Kind: api.Conjunction, From: a, To: x})
		}
	}
	return ties
}

// mutations returns the ties by the figures of both houses that are next to each other elsewhere.
func (c circle) mutations(a, b int) []api.Tie {
	var ties []api.Tie
	third := thirds(a, b)
	for _, x := range c.stands[c.figure(a)] {
		for y := range beside(x) {
			if third(x) && third(y) && c.figure(y) == c.figure(b) {
				ties = append(ties, api.Tie{Kind: api.Mutation, From: x, To: y})
			}
		}
	}
	return ties
}

// translations returns the ties by another figure that stands next to both houses.
func (c circle) translations(a, b int) []api.Tie {
	var ties []api.Tie
	third := thirds(a, b)
	for x := range beside(a) {
		f := c.figure(x)
		if f == c.figure(a) || f == c.figure(b) {
			continue
		}
		for y := range beside(b) {
			if third(x) && third(y) && x != y && f == c.figure(y) {
				ties = append(ties, api.Tie{Kind: api.Translation, From: x, To: y})
			}
		}
	}
	return ties
}

// thirds returns the condition that a house is neither of two houses.
func thirds(a, b int) func(house int) bool {
	return func(house int) bool { return house != a && house != b }
}

// aspects returns the aspects of the figure of a house to another house.
func (c circle) aspects(a, b int) []api.Aspect {
	var aspects []api.Aspect
	for _, x := range c.stands[c.figure(a)] {
		switch kind := api.AspectKind(apart(x, b)); kind {
		case api.Sextile, api.Square, api.Trine, api.Opposition:
			aspects = append(aspects, api.Aspect{Kind: kind, From: x, To: b})
		}
	}
	return aspects
}
