package house_test

import (
	"math"
	"slices"

	"astragal/api"
)

// ok returns the result of a call that has no error.
func ok[T any](x T, e api.Errno) T {
	if e != api.OK {
		panic(e)
	}
	return x
}

// noise returns numbers from 0 to most that follow no simple rule, and the same ones for the same seed.
func noise(seed uint64) func(most int) int {
	return func(most int) int {
		seed = seed*6364136223846793005 + 1442695040888963407
		return int((seed >> 16) % uint64(most+1))
	}
}

// noiseHouses returns twelve figures that follow no rule, of so many kinds at most.
func noiseHouses(next func(int) int, kinds int) api.Houses {
	used := make([]api.Figure, kinds)
	for i := range used {
		used[i] = api.Figure(next(15))
	}
	h := api.Houses{}
	for i := range h {
		h[i] = used[next(kinds-1)]
	}
	return h
}

// noFigures are numbers of no figure.
func noFigures() []api.Figure {
	return []api.Figure{math.MinInt, -16, -1, 16, 17, 31, 1 << 32, math.MaxInt}
}

// noHouses are numbers of no house.
func noHouses() []int { return []int{math.MinInt, -12, -1, 0, 13, 24, 1 << 32, math.MaxInt} }

// pairs yields all pairs of houses, the same one twice too, in ascending order.
func pairs(yield func(a, b int) bool) {
	for a := 1; a <= 12; a++ {
		for b := 1; b <= 12; b++ {
			if !yield(a, b) {
				return
			}
		}
	}
}

// two yields all pairs of two houses.
func two(yield func(a, b int) bool) {
	for a, b := range pairs {
		if a != b && !yield(a, b) {
			return
		}
	}
}

// rules has the figures of each ruler, as the document tells them.
func rules() map[api.Planet][]api.Figure {
	return map[api.Planet][]api.Figure{
		0: {api.Carcer, api.Tristitia},
		1: {api.Acquisitio, api.Laetitia},
		2: {api.Puer, api.Rubeus},
		3: {api.FortunaMajor, api.FortunaMinor},
		4: {api.Amissio, api.Puella},
		5: {api.Albus, api.Conjunctio},
		6: {api.Populus, api.Via},
		7: {api.CaputDraconis},
		8: {api.CaudaDraconis},
	}
}

// rulerOf returns the ruler that has a figure among its own.
func rulerOf(f api.Figure) api.Planet {
	for p, figures := range rules() {
		if slices.Contains(figures, f) {
			return p
		}
	}
	panic(f)
}

// marksOf returns the marks of the lines of a figure.
func marksOf(f api.Figure) [4]int {
	l := [4]int{2, 2, 2, 2}
	for line, worth := range []api.Figure{1, 2, 4, 8} {
		if f/worth%2 == 1 {
			l[line] = 1
		}
	}
	return l
}

// walked counts the steps from one house to another one on both ways, and returns those of the shorter one.
func walked(a, b int) int {
	on, back := 0, 0
	for at := a; at != b; on++ {
		at++
		if at == 13 {
			at = 1
		}
	}
	for at := a; at != b; back++ {
		at--
		if at == 0 {
			at = 12
		}
	}
	return min(on, back)
}

func adjacent(x, y int) bool { return walked(x, y) == 1 }

// tied reports whether the houses x and y show a kind of tie of a and b, in the document's words.
func tied(h api.Houses, kind api.TieKind, a, b, x, y int) bool {
	at := func(house int) api.Figure { return h[house-1] }
	others := x != a && x != b && y != a && y != b
	switch kind {
	case api.Occupation:
		return x == a && y == b && at(a) == at(b)
	case api.Conjunction:
		there := y == b && at(x) == at(a) && adjacent(x, b) && x != a
		here := x == a && at(y) == at(b) && adjacent(y, a) && y != b
		return there || here
	case api.Mutation:
		return at(x) == at(a) && at(y) == at(b) && adjacent(x, y) && others
	case api.Translation:
		return adjacent(x, a) && adjacent(y, b) && x != y && at(x) == at(y) && at(x) != at(a) && at(x) != at(b) && others
	}
	panic(kind)
}

// tiesOf returns the ties of two houses, found by looking at all pairs of houses for each kind.
func tiesOf(h api.Houses, a, b int) []api.Tie {
	var l []api.Tie
	for kind := api.Occupation; kind <= api.Translation; kind++ {
		for x, y := range pairs {
			if tied(h, kind, a, b, x, y) {
				l = append(l, api.Tie{Kind: kind, From: x, To: y})
			}
		}
	}
	return l
}

// aspectsOf returns the aspects of a to b, found by looking at all houses.
func aspectsOf(h api.Houses, a, b int) []api.Aspect {
	var l []api.Aspect
	for x := 1; x <= 12; x++ {
		if n := walked(x, b); h[x-1] == h[a-1] && slices.Contains([]int{2, 3, 4, 6}, n) {
			l = append(l, api.Aspect{Kind: api.AspectKind(n), From: x, To: b})
		}
	}
	return l
}

// judged returns the verdict on two houses.
func judged(h api.Houses, a, b int) api.Verdict {
	ties, aspects := map[api.TieKind]bool{}, map[api.AspectKind]bool{}
	for _, t := range tiesOf(h, a, b) {
		ties[t.Kind] = true
	}
	for _, s := range aspectsOf(h, a, b) {
		aspects[s.Kind] = true
	}
	if ties[api.Occupation] || ties[api.Conjunction] {
		return api.Granted
	}
	if ties[api.Mutation] || ties[api.Translation] {
		return api.Helped
	}
	if (aspects[api.Sextile] || aspects[api.Trine]) && !aspects[api.Square] && !aspects[api.Opposition] {
		return api.Hardly
	}
	return api.Denied
}

// turned returns houses whose figures have moved on by some houses in the circle.
func turned(h api.Houses, by int) api.Houses {
	other := api.Houses{}
	for i, f := range h {
		other[(i+by)%12] = f
	}
	return other
}

// moved returns the house to which one gets from a house by some steps on in the circle.
func moved(house, by int) int { return (house-1+by)%12 + 1 }

// four are the houses of the chapter's examples.
func four() api.Houses { return api.Houses{1, 2, 9, 11, 13, 10, 0, 12, 3, 2, 7, 12} }

// unlike are houses all of whose figures are different.
func unlike() api.Houses { return api.Houses{0, 1, 2, 3, 4, 5, 6, 7, 8, 9, 10, 11} }
