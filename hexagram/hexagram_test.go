package hexagram_test

import (
	"math"
	"testing"

	"astragal/api"
	"astragal/hexagram"
)

// P4.1, P4.11: all casts, there and back.
func TestCast(t *testing.T) {
	pairs := map[[2]int]bool{}
	for lines, want := range everyCast {
		first, second, e := hexagram.Cast(lines)
		if first != want[0] || second != want[1] || e != api.OK {
			t.Fatal(lines, first, second, e, want)
		}
		if back := ok(hexagram.Lines(first, second)); back != lines {
			t.Fatal(lines, back)
		}
		pairs[want] = true
	}
	if len(pairs) != 64*64 {
		t.Error(len(pairs))
	}
}

// P4.1: what is no line, and what is no hexagram, in each place.
func TestNoCast(t *testing.T) {
	for place := range 6 {
		for _, n := range []int{math.MinInt, -7, -1, 0, 1, 5, 10, 11, 16, math.MaxInt} {
			lines := [6]int{6, 7, 8, 9, 7, 8}
			lines[place] = n
			if a, b, e := hexagram.Cast(lines); a != 0 || b != 0 || e != api.ErrArg {
				t.Error(lines, a, b, e)
			}
		}
	}
	for _, h := range noHexagrams() {
		for _, pair := range [][2]int{{h, 1}, {63, h}, {h, h}} {
			if lines, e := hexagram.Lines(pair[0], pair[1]); lines != [6]int{} || e != api.ErrRange {
				t.Error(pair, lines, e)
			}
		}
	}
}

// The first example of the chapter.
func TestExampleOfCasts(t *testing.T) {
	if a, b, e := hexagram.Cast([6]int{7, 8, 9, 6, 7, 7}); a != 53 || b != 57 || e != api.OK {
		t.Error(a, b, e)
	}
}
