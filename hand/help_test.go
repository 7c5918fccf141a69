package hand_test

import (
	"math/big"
	"slices"
	"strconv"

	"astragal/api"
)

const most = api.MaxNumber

// throw returns pieces whose faces have these values and weights, in turn.
func throw(count int, numbers ...int) api.Hand {
	h := api.Hand{Kind: api.HandThrow, Count: count}
	for k := 0; k < len(numbers); k += 2 {
		h.Faces = append(h.Faces, api.Face{Value: numbers[k], Weight: numbers[k+1]})
	}
	return h
}

// marks returns a line of marks.
func marks(low, high int) api.Hand { return api.Hand{Kind: api.HandMarks, Low: low, High: high} }

// stalks returns stalks that are divided.
func stalks(count, group, changes int) api.Hand {
	return api.Hand{Kind: api.HandStalks, Count: count, Group: group, Changes: changes}
}

// draw returns a deck from which cards are drawn.
func draw(count int, cards ...int) api.Hand {
	return api.Hand{Kind: api.HandDraw, Count: count, Cards: cards}
}

// cut returns a deck that is cut.
func cut(cards ...int) api.Hand { return api.Hand{Kind: api.HandCut, Cards: cards} }

// filled returns a list of n equal numbers.
func filled(n, x int) []int { return slices.Repeat([]int{x}, n) }

// faces returns n equal faces.
func faces(n, value, weight int) []api.Face {
	return slices.Repeat([]api.Face{{Value: value, Weight: weight}}, n)
}

// noise returns numbers from 0 to most that follow no simple rule, and the same ones for the same seed.
func noise(seed uint64) func(most int) int {
	return func(most int) int {
		seed = seed*6364136223846793005 + 1442695040888963407
		return int((seed >> 16) % uint64(most+1))
	}
}

// noiseList returns n numbers up to most.
func noiseList(next func(int) int, n, most int) []int {
	l := make([]int, n)
	for k := range l {
		l[k] = next(most)
	}
	return l
}

// smallHands returns hands of all kinds with few courses.
func smallHands() []api.Hand {
	hands := []api.Hand{
		throw(3, 2, 1, 3, 1), throw(1, 1, 1, 3, 4, 4, 4, 6, 1), throw(1, 0, 1), throw(8, 0, 1), throw(8, 40, 1), throw(2, 0, 3), throw(8, 0, 1, 1, 1),
		throw(2, 5, 2, 5, 3, 0, 1), throw(3, 4, 1, 0, 2, 4, 1, 1, 3), throw(1, 40, 1000, 0, 999), throw(2, 7, 50, 0, 1, 7, 2),
		marks(1, 1), marks(2, 2), marks(1, 2), marks(5, 9), marks(4, 9), marks(1, 1000), marks(1000, 1000), marks(999, 1000),
		stalks(9, 4, 1), stalks(13, 4, 2), stalks(49, 4, 2), stalks(5, 2, 1), stalks(64, 8, 2), stalks(17, 8, 1), stalks(20, 3, 2), stalks(33, 8, 2), stalks(64, 2, 2), stalks(14, 2, 3),
		draw(4, 0, 7, 0, 0), draw(2, 0, 0, 1), draw(1, 5), draw(4, 1, 2, 3, 4, 1, 2), draw(3, 7, 7, 7, 7), draw(1, filled(20, 3)...), draw(2, 0, 1, 2, 3, 4, 5, 6, 7, 0, 1, 2, 3, 4, 5, 6, 7, 0, 1, 2, 3),
		cut(7), cut(0), cut(3, 5, 3), cut(filled(20, 6)...), cut(0, 1, 2, 3, 4, 5, 6, 7, 1),
	}
	next := noise(2)
	for range 30 {
		hands = append(hands, throw(1+next(2), noiseList(next, 2, 4)...))
		f := hands[len(hands)-1].Faces
		f[0].Weight++
		hands = append(hands, throw(1+next(2), next(9), 1+next(2), next(9), 1+next(3), next(40), 1+next(2)))
		hands = append(hands, draw(1+next(3), noiseList(next, 4+next(3), 7)...))
		hands = append(hands, draw(1+next(3), noiseList(next, 4+next(3), 1)...))
		hands = append(hands, cut(noiseList(next, 1+next(19), 7)...))
		low := 1 + next(30)
		hands = append(hands, marks(low, low+next(30)))
	}
	return hands
}

// played is what is found out by playing a course as the document tells it.
type played struct {
	choices []int // of the steps of the course, and of the next one, if there is one
	outcome int   // of a complete course
}

// play plays a course.
func play(h api.Hand, course []int) played {
	switch h.Kind {
	case api.HandThrow:
		return playThrow(h, course)
	case api.HandMarks:
		p := played{choices: []int{h.High - h.Low + 1}}
		if len(course) == 1 {
			p.outcome = (h.Low + course[0]) & 1
		}
		return p
	case api.HandStalks:
		return playStalks(h, course)
	case api.HandDraw:
		return playDraw(h, course)
	}
	p := played{choices: []int{len(h.Cards)}}
	if len(course) == 1 {
		p.outcome = h.Cards[course[0]]
	}
	return p
}

func playThrow(h api.Hand, course []int) played {
	var places []int // of a piece
	for _, f := range h.Faces {
		places = append(places, filled(f.Weight, f.Value)...)
	}
	p := played{choices: filled(min(h.Count, len(course)+1), len(places))}
	for _, c := range course {
		p.outcome += places[c]
	}
	return p
}

func playStalks(h api.Hand, course []int) played {
	n := h.Count
	p := played{choices: []int{n - 2}}
	for k, c := range course {
		left, right := c+1, n-c-1
		aside := 1
		right--
		for _, heap := range []int{left, right} {
			for heap > h.Group {
				heap -= h.Group
			}
			aside += heap
		}
		n -= aside
		if k+1 < h.Changes {
			p.choices = append(p.choices, n-2)
		}
	}
	p.outcome = n / h.Group
	return p
}

func playDraw(h api.Hand, course []int) played {
	deck := slices.Clone(h.Cards)
	p := played{choices: []int{len(deck)}}
	for k, c := range course {
		p.outcome = 8*p.outcome + deck[c]
		deck = slices.Delete(deck, c, c+1)
		if k+1 < h.Count {
			p.choices = append(p.choices, len(deck))
		}
	}
	return p
}

// allCourses yields all complete courses of a hand in ascending order, in one piece of memory.
func allCourses(h api.Hand) func(func([]int) bool) {
	return func(yield func([]int) bool) {
		var course []int
		for {
			for p := play(h, course); len(p.choices) > len(course); p = play(h, course) {
				course = append(course, 0)
			}
			if !yield(course) {
				return
			}
			sizes := play(h, course).choices
			k := len(course) - 1
			for k >= 0 && course[k] == sizes[k]-1 {
				k--
			}
			if k < 0 {
				return
			}
			course = course[:k+1]
			course[k]++
		}
	}
}

// unit returns 1 / n as a fraction of the library, for the product n of numbers.
func unit(numbers []int) *big.Rat {
	den := big.NewInt(1)
	for _, n := range numbers {
		den.Mul(den, big.NewInt(int64(n)))
	}
	return new(big.Rat).SetFrac(big.NewInt(1), den)
}

// ok returns the result of a call that must not have an error; a panic shows which call had one.
func ok[T any](x T, e api.Errno) T {
	if e != api.OK {
		panic("error " + strconv.Itoa(int(e)))
	}
	return x
}
