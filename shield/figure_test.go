package shield_test

import (
	"math"
	"testing"

	"astragal/api"
	"astragal/shield"
)

// P3.1: names, marks and numbers of all figures say the same.
func TestFigures(t *testing.T) {
	for f, name := range named() {
		f := api.Figure(f)
		marks := ok(shield.Marks(f))
		if e := shield.Check(f); e != api.OK {
			t.Error(f, e)
		}
		if marks != marksOf(f) || ok(shield.Of(marks)) != f {
			t.Error(f, marks)
		}
		if ok(shield.Name(f)) != name || ok(shield.Parse(name)) != f {
			t.Error(f, name)
		}
	}
}

// P3.1: what is no figure, no name, no marks.
func TestNoFigures(t *testing.T) {
	for _, f := range noFigures() {
		if e := shield.Check(f); e != api.ErrArg {
			t.Error(f, e)
		}
		if s, e := shield.Name(f); s != "" || e != api.ErrArg {
			t.Error(f, s, e)
		}
		if marks, e := shield.Marks(f); marks != [4]int{} || e != api.ErrArg {
			t.Error(f, marks, e)
		}
		if g, e := shield.Turned(f); g != 0 || e != api.ErrArg {
			t.Error(f, g, e)
		}
		if g, e := shield.Opposite(f); g != 0 || e != api.ErrArg {
			t.Error(f, g, e)
		}
		for _, pair := range [][2]api.Figure{{f, 3}, {3, f}, {f, f}} {
			if g, e := shield.Sum(pair[0], pair[1]); g != 0 || e != api.ErrArg {
				t.Error(pair, g, e)
			}
		}
	}
	for _, s := range []string{"", " ", "0", "15", "Via", "VIA", "via ", " via", "vi", "viavia", "fortuna", "fortuna  minor", "fortunaminor", "FortunaMinor", "fortuna_minor", "via\x00", "populus\n"} {
		if f, e := shield.Parse(s); f != 0 || e != api.ErrForm {
			t.Error(s, f, e)
		}
	}
	for line := range 4 {
		for _, n := range []int{math.MinInt, -1, 0, 3, 4, math.MaxInt} {
			marks := [4]int{1, 2, 1, 2}
			marks[line] = n
			if f, e := shield.Of(marks); f != 0 || e != api.ErrArg {
				t.Error(marks, f, e)
			}
		}
	}
}

// P3.2: line by line, for all figures.
func TestOperations(t *testing.T) {
	for a := range api.Figure(16) {
		marks := marksOf(a)
		if got := marksOf(ok(shield.Turned(a))); got != [4]int{marks[3], marks[2], marks[1], marks[0]} {
			t.Error(a, "turned", got)
		}
		if got := marksOf(ok(shield.Opposite(a))); got != [4]int{3 - marks[0], 3 - marks[1], 3 - marks[2], 3 - marks[3]} {
			t.Error(a, "opposite", got)
		}
		for b := range api.Figure(16) {
			if got := marksOf(ok(shield.Sum(a, b))); got != added(marks, marksOf(b)) {
				t.Error(a, b, got)
			}
		}
	}
}

// P3.10: sums in any order, of turned figures, of opposites.
func TestSums(t *testing.T) {
	sum := func(a, b api.Figure) api.Figure { return ok(shield.Sum(a, b)) }
	turned := func(f api.Figure) api.Figure { return ok(shield.Turned(f)) }
	for a := range api.Figure(16) {
		if sum(a, a) != api.Populus || sum(a, ok(shield.Opposite(a))) != api.Via {
			t.Error(a)
		}
		for b := range api.Figure(16) {
			if sum(a, b) != sum(b, a) || turned(sum(a, b)) != sum(turned(a), turned(b)) {
				t.Error(a, b)
			}
			for c := range api.Figure(16) {
				if sum(sum(a, b), c) != sum(a, sum(b, c)) {
					t.Error(a, b, c)
				}
			}
		}
	}
}

// The first example of the chapter.
func TestExampleOfFigures(t *testing.T) {
	if ok(shield.Marks(api.Via)) != [4]int{1, 1, 1, 1} || ok(shield.Marks(api.Albus)) != [4]int{2, 2, 1, 2} || ok(shield.Sum(15, 4)) != 11 || ok(shield.Name(11)) != "puer" {
		t.Error("Via and Albus")
	}
	if ok(shield.Turned(api.Albus)) != api.Rubeus || ok(shield.Opposite(api.Albus)) != 11 {
		t.Error("Albus turned, and its opposite")
	}
}
