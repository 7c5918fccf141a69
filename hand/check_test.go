package hand_test

import (
	"math"
	"testing"

	"astragal/api"
	"astragal/hand"
)

// P2.1: valid hands, up to the limits themselves, and how many outcomes they have.
func TestValid(t *testing.T) {
	full := api.Hand{Kind: api.HandThrow, Count: api.MaxPieces, Faces: faces(api.MaxFaces, api.MaxFace, api.MaxHeavy)}
	for i, c := range []struct {
		h api.Hand
		n int
	}{
		{throw(3, 2, 1, 3, 1), 10},
		{throw(1, 0, 1), 1},
		{throw(1, 1, 1, 3, 4, 4, 4, 6, 1), 7},
		{throw(2, 6, 1, 1, 2), 13},
		{full, 321},
		{marks(1, 1), 2},
		{marks(1, api.MaxMarks), 2},
		{marks(api.MaxMarks, api.MaxMarks), 2},
		{stalks(5, 2, 1), 3},
		{stalks(9, 4, 1), 3},
		{stalks(11, 4, 1), 3},
		{stalks(12, 4, 1), 4},
		{stalks(17, 8, 1), 3},
		{stalks(49, 4, 3), 13},
		{stalks(api.MaxStalks, 2, api.MaxChanges), 33},
		{stalks(api.MaxStalks, api.MaxGroup, 1), 9},
		{draw(1, 0), 8},
		{draw(4, 0, 7, 0, 0), 4096},
		{draw(2, filled(api.MaxCards, 7)...), 64},
		{cut(7), 8},
		{cut(filled(api.MaxCards, 0)...), 8},
	} {
		if n, e := hand.Outcomes(c.h); n != c.n || e != api.OK || hand.Check(c.h) != api.OK {
			t.Error(i, n, e)
		}
	}
}

// wrongHands returns hands that are not valid.
func wrongHands() []api.Hand {
	hands := []api.Hand{
		{}, {Kind: 6}, {Kind: -1}, {Kind: math.MinInt, Count: 1}, {Kind: math.MaxInt},
		{Kind: 0, Count: 1, Faces: faces(1, 1, 1)}, {Kind: 6, Cards: []int{1}},
		throw(0, 1, 1), throw(-1, 1, 1), throw(api.MaxPieces+1, 1, 1), throw(math.MaxInt, 1, 1), throw(math.MinInt, 1, 1),
		throw(1), throw(1, -1, 1), throw(1, api.MaxFace+1, 1), throw(1, 1, 0), throw(1, 1, -1), throw(1, 1, api.MaxHeavy+1),
		throw(1, 1, 1, math.MaxInt, 1), throw(1, 1, 1, 1, math.MinInt), throw(1, 1, 1, 1, 1, 1, 0),
		{Kind: api.HandThrow, Count: 1, Faces: faces(api.MaxFaces+1, 1, 1)},
		marks(0, 1), marks(-1, 1), marks(2, 1), marks(1, api.MaxMarks+1), marks(api.MaxMarks+1, api.MaxMarks+1), marks(0, 0), marks(math.MinInt, math.MaxInt), marks(math.MaxInt, math.MinInt),
		stalks(8, 4, 1), stalks(4, 2, 1), stalks(16, 8, 1), stalks(api.MaxStalks+1, 4, 1), stalks(9, 1, 1), stalks(9, 0, 1), stalks(9, -4, 1),
		stalks(64, api.MaxGroup+1, 1), stalks(9, 4, 0), stalks(9, 4, -1), stalks(64, 2, api.MaxChanges+1), stalks(math.MaxInt, 4, 1), stalks(math.MinInt, 4, 1),
		stalks(9, math.MaxInt, 1), stalks(9, math.MinInt, 1), stalks(9, 4, math.MaxInt), stalks(9, 4, 2), stalks(13, 4, 3), stalks(17, 8, 2), stalks(5, 2, 2),
		draw(0, 1), draw(-1, 1), draw(api.MaxDrawn+1, filled(20, 0)...), draw(2, 1), draw(4, 1, 2, 3), draw(1), draw(0), draw(math.MinInt, 1), draw(math.MaxInt, 1),
		draw(1, filled(api.MaxCards+1, 0)...), draw(1, api.MaxKinds), draw(1, -1), draw(1, 0, 1, 8), draw(1, math.MinInt, math.MaxInt),
		cut(), cut(api.MaxKinds), cut(-1), cut(0, 1, -1), cut(filled(api.MaxCards+1, 0)...), cut(math.MaxInt),
	}
	return append(hands, overfullHands()...)
}

// overfullHands returns hands that are valid but for one field that their kind does not use.
func overfullHands() []api.Hand {
	var hands []api.Hand
	for kind, h := range map[api.HandKind]api.Hand{
		api.HandThrow: throw(1, 1, 1), api.HandMarks: marks(1, 2), api.HandStalks: stalks(9, 4, 1), api.HandDraw: draw(1, 1), api.HandCut: cut(1),
	} {
		uses := func(kinds ...api.HandKind) bool {
			for _, k := range kinds {
				if k == kind {
					return true
				}
			}
			return false
		}
		for _, n := range []int{1, -1, math.MaxInt, math.MinInt} {
			for field, used := range []bool{
				uses(api.HandThrow, api.HandStalks, api.HandDraw), uses(api.HandThrow), uses(api.HandMarks), uses(api.HandMarks),
				uses(api.HandStalks), uses(api.HandStalks), uses(api.HandDraw, api.HandCut),
			} {
				if used {
					continue
				}
				more := h
				switch field {
				case 0:
					more.Count = n
				case 1:
					more.Faces = faces(1, 1, 1)
				case 2:
					more.Low = n
				case 3:
					more.High = n
				case 4:
					more.Group = n
				case 5:
					more.Changes = n
				case 6:
					more.Cards = []int{0}
				}
				hands = append(hands, more)
			}
		}
	}
	return hands
}

// P2.1: hands that are not valid: all functions return this error first.
func TestWrongHands(t *testing.T) {
	record := make([]api.Cast, api.MaxRecord+1)
	for i, h := range wrongHands() {
		n, e := hand.Outcomes(h)
		if f := hand.Check(h); n != 0 || e != api.ErrArg || f != api.ErrArg {
			t.Error(i, h, n, e, f)
		}
		for _, course := range [][]int{nil, {0}, {-1}, filled(9, -1)} {
			n, at, e := hand.Next(h, course)
			if n != 0 || at != 0 || e != api.ErrArg {
				t.Error(i, h, "Next", n, at, e)
			}
			n, at, e = hand.Run(h, course)
			if n != 0 || at != 0 || e != api.ErrArg {
				t.Error(i, h, "Run", n, at, e)
			}
			n, at, e = hand.Rank(h, course)
			if n != 0 || at != 0 || e != api.ErrArg {
				t.Error(i, h, "Rank", n, at, e)
			}
			c, at, e := hand.Chance(h, course)
			if c != (api.Chance{}) || at != 0 || e != api.ErrArg {
				t.Error(i, h, "Chance", c, at, e)
			}
		}
		if w, e := hand.Weights(h); len(w) > 0 || e != api.ErrArg {
			t.Error(i, h, "Weights", w, e)
		}
		for _, outcome := range []int{0, -1, math.MaxInt} {
			if n, e := hand.Courses(h, outcome); n != 0 || e != api.ErrArg {
				t.Error(i, h, "Courses", n, e)
			}
			if l, e := hand.Nth(h, outcome, -1); len(l) > 0 || e != api.ErrArg {
				t.Error(i, h, "Nth", l, e)
			}
		}
		for _, r := range [][]api.Cast{nil, record[:1], record} {
			if cast, at, e := hand.Audit(h, r); cast != 0 || at != 0 || e != api.ErrArg {
				t.Error(i, h, "Audit", cast, at, e)
			}
		}
	}
}

// fewest returns the least number of stalks at any step of any course, by playing all of them.
func fewest(h api.Hand, n, changes int) int {
	least := n
	if changes > 1 {
		for c := range n - 2 {
			aside := 1 + (c+1-1)%h.Group + 1 + (n-c-2-1)%h.Group + 1
			least = min(least, fewest(h, n-aside, changes-1))
		}
	}
	return least
}

// P2.1: for all stalks it is tried out whether a course comes to a step with too few of them.
func TestEnoughStalks(t *testing.T) {
	for group := 2; group <= api.MaxGroup; group++ {
		for count := 2*group + 1; count <= api.MaxStalks; count++ {
			enough := true
			for changes := 1; changes <= api.MaxChanges; changes++ {
				h := stalks(count, group, changes)
				// Deeper courses than of three changes take too long to play: they are tried with few stalks alone.
				if changes <= 3 || count <= 24 {
					enough = fewest(h, count, changes) >= 3
				} else if enough {
					continue
				}
				if (hand.Check(h) == api.OK) != enough {
					t.Error(h, hand.Check(h), "want enough:", enough)
				}
			}
		}
	}
}
