package odds_test

import (
	"math"
	"slices"
	"testing"

	"astragal/api"
	"astragal/odds"
)

// R4: no argument is changed, and no result shares memory with one.
func TestMemory(t *testing.T) {
	one := []int{1}
	for name, call := range map[string]func(w, to []int) []int{
		"Lowest": func(w, to []int) []int { l, _ := odds.Lowest(w); return l },
		"Given":  func(w, to []int) []int { l, _ := odds.Given(w, to); return l },
		"Map":    func(w, to []int) []int { l, _ := odds.Map(w, to, 3); return l },
		"Join":   func(w, to []int) []int { l, _ := odds.Join(w, one); return l },
		"Joined": func(w, to []int) []int { l, _ := odds.Join(one, w); return l },
		"Sum":    func(w, to []int) []int { l, _ := odds.Sum(w, one); return l },
		"Summed": func(w, to []int) []int { l, _ := odds.Sum(one, w); return l },
		"Repeat": func(w, to []int) []int { l, _ := odds.Repeat(w, 1); return l },
		"Mix":    func(w, to []int) []int { l, _ := odds.Mix(one, [][]int{w}); return l },
		"Mixed":  func(w, to []int) []int { l, _ := odds.Mix(w, [][]int{{1, 0, 0}, {0, 1, 0}, {0, 0, 1}}); return l },
	} {
		w, to := []int{2, 1, 3}, []int{0, 1, 2}
		l := call(w, to)
		if !slices.Equal(l, w) {
			t.Error(name, l)
		}
		l = l[:cap(l)]
		for k := range l {
			l[k] = -7
		}
		if !slices.Equal(w, []int{2, 1, 3}) || !slices.Equal(to, []int{0, 1, 2}) || one[0] != 1 {
			t.Error(name, "shares memory", w, to, one)
		}
		if l = call(w, to); !slices.Equal(l, w) {
			t.Error(name, "kept memory", l)
		}
	}
	a, b := []int{2, 4, 6}, []int{4, 4, 2}
	odds.Total(a)
	odds.Same(a, b)
	odds.Of(a, b)
	odds.Apart(a, b)
	odds.Pick(a, 3)
	odds.Fair(9, 5, a)
	odds.Mix(a, [][]int{a, b, b})
	if !slices.Equal(a, []int{2, 4, 6}) || !slices.Equal(b, []int{4, 4, 2}) {
		t.Error("an argument was changed", a, b)
	}
}

// P1: all functions terminate without a panic, whatever they are given, with zero values beside an error.
func TestAnyArguments(t *testing.T) {
	numbers := []int{math.MinInt, -1, 0, 1, 2, 64, 4096, 1000000, most, most + 1, math.MaxInt}
	lists := [][]int{nil, {}, {0}, {1}, {most}, {most, most}, {1, 0, 1}, {math.MaxInt, math.MaxInt, 2}, {math.MinInt, math.MinInt}, filled(4097, math.MinInt), filled(4096, 1), filled(64, 5), filled(65, 5)}
	list := func(l []int, e api.Errno) {
		t.Helper()
		if (e != api.OK) != (len(l) == 0) {
			t.Error(len(l), e)
		}
	}
	chance := func(c api.Chance, e api.Errno) {
		t.Helper()
		if (e != api.OK) != (c == part(0, 0)) {
			t.Error(c, e)
		}
	}
	number := func(n int, e api.Errno) {
		t.Helper()
		if e != api.OK && n != 0 {
			t.Error(n, e)
		}
	}
	for _, a := range lists {
		odds.Check(a)
		number(odds.Total(a))
		list(odds.Lowest(a))
		for _, b := range lists {
			if same, e := odds.Same(a, b); same && e != api.OK {
				t.Error("Same", e)
			}
			chance(odds.Of(a, b))
			list(odds.Given(a, b))
			list(odds.Join(a, b))
			list(odds.Sum(a, b))
			chance(odds.Apart(a, b))
			list(odds.Mix(a, [][]int{b, a}))
			list(odds.Mix(a, [][]int{b}))
			list(odds.Map(a, b, len(b)))
		}
		for _, n := range numbers {
			list(odds.Repeat(a, n))
			list(odds.Map(a, a, n))
			number(odds.Pick(a, n))
			for _, m := range numbers {
				if v, used, e := odds.Fair(n, m, a); e != api.OK && (v != 0 || used != 0) {
					t.Error("Fair", n, m, v, used, e)
				}
			}
		}
	}
	for _, a := range numbers {
		for _, b := range numbers {
			chance(odds.Not(part(a, b)))
			for _, c := range numbers {
				for _, d := range numbers {
					number(odds.Compare(part(a, b), part(c, d)))
					chance(odds.Both(part(a, b), part(c, d)))
					chance(odds.Either(part(a, b), part(c, d)))
				}
			}
		}
	}
}

// The examples at the end of the chapter.
func TestExamples(t *testing.T) {
	w := []int{2, 1, 1}
	if ok(odds.Total(w)) != 4 || ok(odds.Of(w, []int{1, 2})) != part(1, 2) || !slices.Equal(ok(odds.Given(w, []int{1, 2})), []int{0, 1, 1}) {
		t.Error("example 1")
	}
	for value, want := range []int{0, 0, 1} {
		if ok(odds.Pick(w, value)) != want {
			t.Error("example 1, Pick", value)
		}
	}
	if !slices.Equal(ok(odds.Sum([]int{1, 1}, []int{1, 1})), []int{1, 2, 1}) || !slices.Equal(ok(odds.Repeat([]int{1, 1}, 3)), []int{1, 3, 3, 1}) {
		t.Error("example 2")
	}
	if !slices.Equal(ok(odds.Mix([]int{1, 1}, [][]int{{1, 0}, {1, 2}})), []int{2, 1}) {
		t.Error("example 3")
	}
	if ok(odds.Apart([]int{1, 1}, []int{3, 1})) != part(1, 4) {
		t.Error("example 4")
	}
	if value, used, e := odds.Fair(6, 4, []int{5, 2}); value != 0 || used != 2 || e != api.OK {
		t.Error("example 5", value, used, e)
	}
}
