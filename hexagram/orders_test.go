package hexagram_test

import (
	"math"
	"slices"
	"testing"

	"astragal/api"
	"astragal/hexagram"
)

// palaces returns the hexagrams of each head by their steps, written out as the document does.
func palaces() map[int][]int {
	all := map[int][]int{}
	for h := range 64 {
		d := draw(h)
		if d[3] != d[0] || d[4] != d[1] || d[5] != d[2] {
			continue
		}
		for _, lines := range [][]int{{}, {0}, {0, 1}, {0, 1, 2}, {0, 1, 2, 3}, {0, 1, 2, 3, 4}, {0, 1, 2, 4}, {4}} {
			all[h] = append(all[h], d.turned(lines...).number())
		}
	}
	return all
}

// P4.5, P4.13: each hexagram is found in the one palace and at the one step at which it is.
func TestPalace(t *testing.T) {
	seen := map[int]bool{}
	for head, l := range palaces() {
		for step, h := range l {
			a, b, e := hexagram.Palace(h)
			if a != head || b != step || e != api.OK {
				t.Error(h, a, b, e)
			}
			seen[h] = true
		}
	}
	if len(seen) != 64 {
		t.Error(seen)
	}
	for _, h := range noHexagrams() {
		if a, b, e := hexagram.Palace(h); a != 0 || b != 0 || e != api.ErrRange {
			t.Error(h, a, b, e)
		}
	}
}

// byPalaces returns an order that keeps HexPalaces.
func byPalaces(heads ...int) []int {
	var order []int
	for _, head := range heads {
		order = append(order, palaces()[head]...)
	}
	return order
}

// byPairs returns an order that keeps HexPairs.
func byPairs() []int {
	var order []int
	for h := range 64 {
		if !slices.Contains(order, h) {
			order = append(order, h, pairOf(h))
		}
	}
	return order
}

// pairOf returns the hexagram with which another one is a pair.
func pairOf(h int) int {
	if other := made(h, api.HexReverse); other != h {
		return other
	}
	return made(h, api.HexOpposite)
}

// byOpposites returns an order that keeps HexOpposites.
func byOpposites() []int {
	order := make([]int, 64)
	for k := range 32 {
		order[k], order[63-k] = 2*k+1, 63-(2*k+1)
	}
	return order
}

// brokenAt returns the first place at which an order breaks a rule, place by place as the document tells them.
func brokenAt(order []int, rule api.HexRule) int {
	for k, h := range order {
		switch rule {
		case api.HexPairs:
			if k%2 == 0 && order[k+1] != pairOf(h) {
				return k
			}
		case api.HexOpposites:
			if h+order[63-k] != 63 {
				return k
			}
		case api.HexPalaces:
			l := palaces()[order[k/8*8]]
			if len(l) == 0 || l[k%8] != h {
				return k
			}
		}
	}
	return -1
}

// P4.6, P4.13: orders that keep a rule, and with two hexagrams exchanged; orders of any kind.
func TestBroken(t *testing.T) {
	next := noise(46)
	places := map[api.HexRule]map[int]bool{}
	for rule, order := range map[api.HexRule][]int{api.HexPairs: byPairs(), api.HexOpposites: byOpposites(), api.HexPalaces: byPalaces(63, 0, 9, 54, 18, 45, 27, 36)} {
		places[rule] = map[int]bool{}
		if k := ok(hexagram.Broken(order, rule)); k != -1 {
			t.Error(rule, order, k)
		}
		for a := range 64 {
			for range 8 {
				l, b := slices.Clone(order), next(63)
				l[a], l[b] = l[b], l[a]
				was := slices.Clone(l)
				want := brokenAt(l, rule)
				k, e := hexagram.Broken(l, rule)
				if k != want || e != api.OK || !slices.Equal(l, was) {
					t.Error(rule, l, k, want, e)
				}
				places[rule][want] = true
			}
		}
		for other := range api.HexRule(3) {
			if k := ok(hexagram.Broken(order, other+1)); k != brokenAt(order, other+1) {
				t.Error(order, other+1, k)
			}
		}
	}
	if len(places[api.HexPairs]) < 25 || len(places[api.HexOpposites]) < 25 || len(places[api.HexPalaces]) < 40 {
		t.Error(places)
	}
}

// P4.6: what is no head breaks HexPalaces at the multiple of 8.
func TestNoHead(t *testing.T) {
	order := byPalaces(0, 9, 18, 27, 36, 45, 54, 63)
	order[8], order[9] = order[9], order[8]
	if k := ok(hexagram.Broken(order, api.HexPalaces)); k != 8 {
		t.Error(k)
	}
}

// P4.6: no order, then no rule.
func TestBrokenErrors(t *testing.T) {
	good := byPairs()
	for _, rule := range []api.HexRule{math.MinInt, -1, 0, 4, 5, math.MaxInt} {
		if k, e := hexagram.Broken(good, rule); k != 0 || e != api.ErrNone {
			t.Error(rule, k, e)
		}
		if k, e := hexagram.Broken(good[1:], rule); k != 0 || e != api.ErrArg {
			t.Error(rule, k, e)
		}
	}
	wrong := [][]int{nil, good[:63], append(slices.Clone(good), 0), append(slices.Clone(good), 64), slices.Repeat([]int{0}, 64), append(slices.Clone(good), good...)}
	for _, h := range noHexagrams() {
		for _, place := range []int{0, 31, 63} {
			l := slices.Clone(good)
			l[place] = h
			wrong = append(wrong, l)
		}
	}
	for place := range 63 {
		l := slices.Clone(good)
		l[place] = l[63]
		wrong = append(wrong, l)
	}
	for _, l := range wrong {
		for rule := range api.HexRule(5) {
			if k, e := hexagram.Broken(l, rule); k != 0 || e != api.ErrArg {
				t.Error(l, rule, k, e)
			}
		}
	}
}

// The fifth example of the chapter.
func TestExampleOfPalaces(t *testing.T) {
	if head, step, e := hexagram.Palace(7); head != 0 || step != 3 || e != api.OK {
		t.Error(head, step, e)
	}
	if head, step, e := hexagram.Palace(16); head != 0 || step != 7 || e != api.OK {
		t.Error(head, step, e)
	}
}
