package bureau_test

import (
	"fmt"
	"slices"
	"strings"
	"testing"

	"astragal/api"
	"astragal/bureau"
	"astragal/hand"
	"astragal/odds"
)

// The first example of the chapter.
func TestExampleOfHands(t *testing.T) {
	says(t, bureau.New(), "throw coins 3 2:1,3:1 > 10", "cast coins 0,1,1 > 8", "cast coins 1,1,1 > 9", "tally coins > 8:1 9:1", "weights coins > 0,0,0,0,0,0,1,3,3,1", "chance coins 8,9 > 1/2")
}

// P12.2: each kind of hand has the outcomes and the weights of chapter 2.
func TestHands(t *testing.T) {
	for line, h := range map[string]api.Hand{
		"throw a 3 2:1,3:1":         {Kind: api.HandThrow, Count: 3, Faces: []api.Face{{Value: 2, Weight: 1}, {Value: 3, Weight: 1}}},
		"throw a 1 1:1,3:4,4:4,6:1": {Kind: api.HandThrow, Count: 1, Faces: []api.Face{{Value: 1, Weight: 1}, {Value: 3, Weight: 4}, {Value: 4, Weight: 4}, {Value: 6, Weight: 1}}},
		"marks a 5 9":               {Kind: api.HandMarks, Low: 5, High: 9},
		"marks a 9 9":               {Kind: api.HandMarks, Low: 9, High: 9},
		"stalks a 9 4 1":            {Kind: api.HandStalks, Count: 9, Group: 4, Changes: 1},
		"stalks a 49 4 3":           {Kind: api.HandStalks, Count: 49, Group: 4, Changes: 3},
		"cards a 2 0,0,1":           {Kind: api.HandDraw, Count: 2, Cards: []int{0, 0, 1}},
		"deck a 3,5,3":              {Kind: api.HandCut, Cards: []int{3, 5, 3}},
	} {
		b := bureau.New()
		says(t, b, fmt.Sprint(line, " > ", ok(hand.Outcomes(h))), "weights a > "+spread(",", ok(hand.Weights(h))...), "tally a > -")
	}
	says(t, bureau.New(), "throw a 0 1:1 > ErrArg", "throw a 9 1:1 > ErrArg", "throw a 1 41:1 > ErrArg", "throw a 1 1:0 > ErrArg", "throw a 1 -1:1 > ErrArg", "marks a 0 1 > ErrArg", "marks a 9 5 > ErrArg", "marks a 1 1001 > ErrArg", "stalks a 9 4 2 > ErrArg", "stalks a 8 4 1 > ErrArg", "cards a 3 0,1 > ErrArg", "cards a 1 - > ErrArg", "cards a 5 0,1,2,3,4 > ErrArg", "deck a 8 > ErrArg", "deck a - > ErrArg", "deck a "+strings.Repeat("1,", 20)+"1 > ErrArg", "tally a > ErrNone")
}

// P12.2: the errors of hands, in their order; 8 hands at most, and each name once, whatever kind has it.
func TestRoomForHands(t *testing.T) {
	b := bureau.New()
	for k, name := range []string{"a", "b", "c", "d", "e", "f", "g", "h"} {
		says(t, b, "marks "+name+" 1 0 > ErrArg", fmt.Sprint("marks ", name, " 1 ", 1+k), "deck "+name+" - > ErrTwice", "deck "+name+" 1 > ErrTwice")
	}
	says(t, b, "deck i 1 > ErrFull", "deck i - > ErrFull", "throw a 1 1:1 > ErrTwice", "stalks h 9 4 1 > ErrTwice", "cards h 0 - > ErrTwice", "weights a > 0,1", "weights h > 1,1", "weights i > ErrNone", "chart a 1 > 1", "chart i 1 > 1")
}

// P12.3: casts, and their errors in their order.
func TestCasts(t *testing.T) {
	b := bureau.New()
	says(t, b, "cast a 0 > ErrNone", "cast a - > ErrNone", "throw a 3 2:1,3:1", "throw b 1 2:1,3:1", "tally a > -",
		"cast a 0,0,0 > 6", "cast a 1,1,1 > 9", "cast b 0 > 2", "cast a 0,1,0 > 7", "cast a 1,0,0 > 7",
		"cast a 2,0,0 > ErrStep", "cast a 0,-1 > ErrStep", "cast a 0,0 > ErrNone", "cast a - > ErrNone", "cast a 0,0,0,0 > ErrLong", "cast c 0,0,0 > ErrNone",
		"tally a > 6:1 7:2 9:1", "tally b > 2:1", "tally c > ErrNone")
	says(t, bureau.New(), "cards a 2 7,7,0", "cast a 0,0 > 63", "cast a 0,1 > 56", "cast a 2,0 > 7", "cast a 0,1 > 56", "tally a > 7:1 56:2 63:1")
	says(t, bureau.New(), "deck a 0,1,2,3,4,5,6,7", "cast a 7", "cast a 2", "cast a 0", "cast a 2", "cast a 5", "cast a 2", "tally a > 0:1 2:3 5:1 7:1")
}

// P12.3: a register has room for 400 casts; the errors of Run come ahead of that.
func TestFullRegister(t *testing.T) {
	b := bureau.New()
	says(t, b, "marks a 1 2", "marks b 1 2")
	for k := range 400 {
		says(t, b, fmt.Sprint("cast a ", k%2, " > ", 1-k%2))
	}
	says(t, b, "tally a > 0:200 1:200", "cast a 0 > ErrFull", "cast a 2 > ErrStep", "cast a - > ErrNone", "cast a 0,0 > ErrLong", "tally a > 0:200 1:200", "cast b 0 > 1", "tally b > 1:1", "evidence a b > 0")
}

// P12.3: weights and chances.
func TestChances(t *testing.T) {
	b := bureau.New()
	says(t, b, "weights a > ErrNone", "chance a - > ErrNone", "throw a 3 2:1,3:1", "chance a - > 0/1", "chance a 6 > 1/8", "chance a 6,7,8,9 > 1/1", "chance a 0,7 > 3/8", "chance a 0 > 0/1", "chance a 8,7 > ErrArg", "chance a 7,7 > ErrArg", "chance a 10 > ErrArg", "chance a -1 > ErrArg",
		"throw heavy 8 0:1000 > 1", "weights heavy > ErrFull", "chance heavy 0 > ErrFull", "chance heavy 5,5 > ErrFull", "cast heavy 0,0,0,0,0,0,0,999 > 0",
		"throw big 5 0:999,40:1", "chance big 200 > 1/1000000000000000")
	next := noise(123)
	for range 60 {
		h := api.Hand{Kind: api.HandThrow, Count: 1 + next(4)}
		for range 1 + next(3) {
			h.Faces = append(h.Faces, api.Face{Value: next(9), Weight: 1 + next(5)})
		}
		var faces []string
		for _, f := range h.Faces {
			faces = append(faces, spread(":", f.Value, f.Weight))
		}
		w := ok(hand.Weights(h))
		var some []int
		for k := range w {
			if next(2) == 0 {
				some = append(some, k)
			}
		}
		c := ok(odds.Of(w, some))
		says(t, bureau.New(), fmt.Sprint("throw a ", h.Count, " ", strings.Join(faces, ","), " > ", len(w)), "weights a > "+spread(",", w...), fmt.Sprint("chance a ", spread(",", some...), " > ", c.Num, "/", c.Den))
	}
}

// P12.4: which of two hands explains the register of the first one better.
func TestEvidence(t *testing.T) {
	b := bureau.New()
	says(t, b, "evidence a b > ErrNone", "marks a 1 2 > 2", "evidence a b > ErrNone", "evidence b a > ErrNone", "evidence a a > 0", "marks b 1 3 > 2", "evidence a b > 0",
		"cast a 0 > 1", "evidence a b > -1", "evidence b a > 0", "cast a 1 > 0", "evidence a b > 1", "evidence b a > 0", "cast b 1 > 0", "evidence b a > -1", "cast b 0 > 1", "cast b 2 > 1", "evidence b a > 1", "evidence a a > 0",
		"marks odd 1 1 > 2", "evidence a odd > 1", "evidence odd a > 0", "cast odd 0 > 1", "evidence odd a > 1", "evidence odd odd > 0")
	// Hands with other outcomes, with too many or too heavy ones, and with weights that can not be told.
	says(t, b, "deck cards 0,1 > 8", "evidence a cards > ErrArg", "evidence cards a > ErrArg", "evidence cards cards > 0", "throw heavy 8 0:1000 > 1", "throw sure 1 0:1 > 1", "evidence heavy sure > ErrFull", "evidence sure heavy > ErrFull", "evidence heavy a > ErrFull", "evidence a heavy > ErrFull", "evidence heavy none > ErrNone", "evidence none heavy > ErrNone", "evidence sure sure > 0")
	says(t, bureau.New(), "throw a 1 0:1,31:1 > 32", "evidence a a > 0", "throw b 1 0:1,32:1 > 33", "evidence b b > ErrArg", "throw c 1 0:1000,31:1", "evidence a c > 0", "evidence c a > 0", "throw d 2 0:40,31:1 > 63", "evidence d d > ErrArg", "throw e 2 0:40,15:1 > 31", "evidence e e > ErrArg", "throw f 2 0:31,15:1 > 31", "evidence f f > 0", "cast c 0", "evidence c a > 1", "cast a 1", "evidence a c > 1")
}

// P12.13: the counts of a tally are those of the casts without an error.
func TestTally(t *testing.T) {
	next := noise(1213)
	b := bureau.New()
	says(t, b, "cards a 2 0,1,1,2", "throw b 2 0:1,1:2")
	counts := map[string]map[int]int{"a": {}, "b": {}}
	for range 600 {
		name := []string{"a", "b"}[next(1)]
		var course []int
		for range 1 + next(5)/2 {
			course = append(course, next(2)+next(9)/9*3)
		}
		if text, e := b.Line("cast " + name + " " + spread(",", course...)); e == api.OK {
			counts[name][toNumber(text)]++
		}
	}
	for name, times := range counts {
		var words []string
		for outcome := range 64 {
			if times[outcome] > 0 {
				words = append(words, fmt.Sprint(outcome, ":", times[outcome]))
			}
		}
		if len(words) < 3 {
			t.Error(words)
		}
		says(t, b, "tally "+name+" > "+strings.Join(words, " "))
	}
}

// P12.2: a hand is kept as it was given, whatever is done to the others.
func TestHandsStay(t *testing.T) {
	b := bureau.New()
	lines := []string{"throw a 2 0:1,1:2", "deck b 1,2,3", "cards c 1 0,0,1", "stalks d 9 4 1", "marks e 2 4"}
	var want []string
	for k, line := range lines {
		says(t, b, line)
		want = append(want, text(b, "weights "+"abcde"[k:k+1]))
	}
	says(t, b, "cast a 0,0", "cast b 0", "cast c 0", "cast d 0", "cast e 0", "evidence a a", "deck a 1 > ErrTwice", "deck f - > ErrArg")
	var got []string
	for k := range lines {
		got = append(got, text(b, "weights "+"abcde"[k:k+1]))
	}
	if !slices.Equal(got, want) {
		t.Error(got, want)
	}
}
