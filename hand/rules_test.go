package hand_test

import (
	"math"
	"slices"
	"testing"

	"astragal/api"
	"astragal/hand"
)

// R4: no argument is changed or kept, and no result shares memory with one.
func TestMemory(t *testing.T) {
	for _, h := range []api.Hand{throw(2, 1, 1, 0, 2), marks(2, 5), stalks(13, 4, 2), draw(2, 1, 2, 3), cut(4, 5)} {
		copied := h
		copied.Faces, copied.Cards = slices.Clone(h.Faces), slices.Clone(h.Cards)
		for course := range allCourses(h) {
			kept := slices.Clone(course)
			outcome, _, _ := hand.Run(h, course)
			number, _, _ := hand.Rank(h, course)
			hand.Next(h, course[:1])
			hand.Chance(h, course)
			hand.Audit(h, []api.Cast{{Course: course, Outcome: outcome}})
			w, l := ok(hand.Weights(h)), ok(hand.Nth(h, outcome, number))
			again, same := slices.Clone(w), slices.Clone(l)
			for _, list := range [][]int{w[:cap(w)], l[:cap(l)]} {
				for k := range list {
					list[k] = -7
				}
			}
			if !slices.Equal(kept, course) || !slices.Equal(h.Faces, copied.Faces) || !slices.Equal(h.Cards, copied.Cards) {
				t.Fatal(h, course, "an argument was changed")
			}
			if !slices.Equal(ok(hand.Weights(h)), again) || !slices.Equal(ok(hand.Nth(h, outcome, number)), same) {
				t.Fatal(h, course, "memory was kept")
			}
		}
	}
}

// R3: nil and empty lists are the same.
func TestEmptyLists(t *testing.T) {
	h := marks(1, 2)
	h.Faces, h.Cards = []api.Face{}, []int{}
	if e := hand.Check(h); e != api.OK {
		t.Error(e)
	}
	n, at, e := hand.Next(h, []int{})
	if m, b, f := hand.Next(h, nil); n != m || at != b || e != f || n != 2 {
		t.Error(n, at, e, m, b, f)
	}
	if o, at, e := hand.Run(h, []int{}); o != 0 || at != 0 || e != api.ErrNone {
		t.Error(o, at, e)
	}
}

// P1: all functions terminate without a panic, whatever they are given, with zero values beside an error.
func TestAnyArguments(t *testing.T) {
	numbers := []int{math.MinInt, -1, 0, 1, 2, 3, 9, 64, 1000, most, math.MaxInt}
	hands := append(wrongHands(), throw(8, 40, 1000, 0, 1000), throw(1, 1, 1), marks(1, 1000), stalks(64, 2, 5), draw(2, filled(20, 7)...), cut(0))
	next := noise(1)
	for range 3000 {
		number := func() int { return numbers[next(len(numbers)-1)] }
		h := api.Hand{Kind: api.HandKind(next(6)), Count: number(), Low: number(), High: number(), Group: number(), Changes: number()}
		h.Faces, h.Cards = faces(next(2)*next(21), number(), number()), filled(next(2)*next(21), number())
		hands = append(hands, h)
	}
	for _, h := range hands {
		for _, n := range numbers {
			for _, course := range [][]int{nil, {n}, {n, n}, {0, n}, filled(8, 0), filled(70, n)} {
				c, at, e := hand.Chance(h, course)
				o, a, f := hand.Run(h, course)
				if e != f && e != api.ErrFull || e != api.ErrFull && at != a || (e == api.OK) != (c.Num == 1) || f != api.OK && o != 0 {
					t.Fatal(h, course, c, at, e, o, a, f)
				}
				if r, at, e := hand.Rank(h, course); e != api.OK && r != 0 || (e == api.OK || e == api.ErrArg || e == api.ErrFull) && at != 0 {
					t.Fatal(h, course, r, at, e)
				}
				if cast, at, e := hand.Audit(h, []api.Cast{{Course: course, Outcome: o}}); e != f || at != a || f == api.OK && cast != -1 || f != api.OK && cast != 0 {
					t.Fatal(h, course, cast, at, e)
				}
				if n, at, e := hand.Next(h, course); e != api.OK && n != 0 || e == api.OK && at != 0 {
					t.Fatal(h, course, n, at, e)
				}
			}
			if k, e := hand.Courses(h, n); e != api.OK && k != 0 {
				t.Fatal(h, n, k, e)
			}
			if l, e := hand.Nth(h, n, n); (e == api.OK) != (len(l) > 0) {
				t.Fatal(h, n, l, e)
			}
		}
		w, e := hand.Weights(h)
		n, f := hand.Outcomes(h)
		if (e == api.OK) != (len(w) > 0) || e == api.OK && len(w) != n || f != hand.Check(h) || (f == api.OK) != (n > 0) {
			t.Fatal(h, w, e, n, f)
		}
	}
}

// The examples at the end of the chapter.
func TestExamples(t *testing.T) {
	coins := throw(3, 2, 1, 3, 1)
	o, _, _ := hand.Run(coins, []int{0, 1, 1})
	c, _, _ := hand.Chance(coins, []int{0, 1, 1})
	n, _, _ := hand.Rank(coins, []int{0, 1, 1})
	if !slices.Equal(ok(hand.Weights(coins))[6:], []int{1, 3, 3, 1}) || o != 8 || c != (api.Chance{Num: 1, Den: 8}) || n != 0 {
		t.Error("example 1", o, c, n)
	}
	for k, course := range [][]int{{0, 1, 1}, {1, 0, 1}, {1, 1, 0}} {
		if !slices.Equal(ok(hand.Nth(coins, 8, k)), course) {
			t.Error("example 1", k)
		}
	}
	if !slices.Equal(ok(hand.Weights(marks(5, 9))), []int{2, 3}) {
		t.Error("example 2")
	}
	bone := throw(1, 1, 1, 3, 4, 4, 4, 6, 1)
	for choice, want := range []int{1, 3, 3, 3, 3, 4, 4, 4, 4, 6} {
		if o, _, _ := hand.Run(bone, []int{choice}); o != want {
			t.Error("example 3", choice, o)
		}
	}
	if !slices.Equal(ok(hand.Weights(bone)), []int{0, 1, 0, 4, 4, 0, 1}) {
		t.Error("example 3")
	}
	sticks := stalks(9, 4, 1)
	n, _, _ = hand.Next(sticks, nil)
	o, _, _ = hand.Run(sticks, []int{0})
	p, _, _ := hand.Run(sticks, []int{3})
	if n != 7 || o != 1 || p != 0 || !slices.Equal(ok(hand.Weights(sticks)), []int{1, 6, 0}) {
		t.Error("example 4", n, o, p)
	}
	deck := draw(2, 0, 0, 1)
	o, _, _ = hand.Run(deck, []int{2, 1})
	n, _, _ = hand.Rank(deck, []int{2, 1})
	if ok(hand.Courses(deck, 0)) != 2 || ok(hand.Courses(deck, 1)) != 2 || ok(hand.Courses(deck, 8)) != 2 || o != 8 || n != 1 {
		t.Error("example 5", o, n)
	}
	if !slices.Equal(ok(hand.Weights(cut(3, 5, 3))), []int{0, 0, 0, 2, 0, 1, 0, 0}) {
		t.Error("example 6")
	}
}
