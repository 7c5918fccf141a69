package hand

import (
	"slices"

	"astragal/api"
	"astragal/whole"
)

// check returns ErrArg unless a hand is valid.
func check(h api.Hand) api.Errno {
	var valid bool
	switch h.Kind {
	case api.HandThrow:
		valid = validThrow(h)
	case api.HandMarks:
		valid = validMarks(h)
	case api.HandStalks:
		valid = validStalks(h)
	case api.HandDraw:
		valid = validDraw(h)
	case api.HandCut:
		valid = validCut(h)
	}
	if !valid {
		return api.ErrArg
	}
	return api.OK
}

func validThrow(h api.Hand) bool {
	wrong := func(f api.Face) bool {
		return whole.Outside(0, api.MaxFace)(f.Value) || whole.Outside(1, api.MaxHeavy)(f.Weight)
	}
	return within(1, api.MaxPieces, h.Count) && within(1, api.MaxFaces, len(h.Faces)) && !slices.ContainsFunc(h.Faces, wrong) &&
		unused(h.Low, h.High, h.Group, h.Changes, len(h.Cards))
}

func validMarks(h api.Hand) bool {
	return within(1, h.High, h.Low) && within(h.Low, api.MaxMarks, h.High) &&
		unused(h.Count, len(h.Faces), h.Group, h.Changes, len(h.Cards))
}

func validStalks(h api.Hand) bool {
	return within(2, api.MaxGroup, h.Group) && within(2*h.Group+1, api.MaxStalks, h.Count) && within(1, api.MaxChanges, h.Changes) &&
		unused(len(h.Faces), h.Low, h.High, len(h.Cards)) && enough(h)
}

func validDraw(h api.Hand) bool {
	return within(1, api.MaxDrawn, h.Count) && validCards(h.Cards, h.Count) &&
		unused(len(h.Faces), h.Low, h.High, h.Group, h.Changes)
}

func validCut(h api.Hand) bool {
	return validCards(h.Cards, 1) &&
		unused(h.Count, len(h.Faces), h.Low, h.High, h.Group, h.Changes)
}

// validCards reports whether there are enough cards, and not too many, each of some kind.
func validCards(cards []int, least int) bool {
	return within(least, api.MaxCards, len(cards)) && !slices.ContainsFunc(cards, whole.Outside(0, api.MaxKinds-1))
}

// enough reports whether no course of stalks comes to a step with too few of them.
func enough(h api.Hand) bool {
	reached := map[state]bool{start(h): true}
	for range h.Changes {
		next := map[state]bool{}
		for s := range reached {
			if s.(stalks).count < 3 {
				return false
			}
			for to := range s.branches(h) {
				next[to] = true
			}
		}
		reached = next
	}
	return true
}

// within reports whether a number is from low to high.
func within(low, high, n int) bool { return !whole.Outside(low, high)(n) }

// unused reports whether all numbers are 0.
func unused(numbers ...int) bool {
	return !slices.ContainsFunc(numbers, func(n int) bool { return n != 0 })
}
