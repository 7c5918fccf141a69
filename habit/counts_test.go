package habit_test

import (
	"slices"
	"testing"

	"astragal/api"
	"astragal/habit"
)

// P9.7: counts and pairs, of all small registers and of some greater ones, as in the document's words.
func TestTally(t *testing.T) {
	counts, pairs, e := habit.Tally([]int{0, 0, 2, 0, 0, 0}, 3)
	if !slices.Equal(counts, []int{5, 0, 1}) || !slices.Equal(pairs, []int{3, 0, 1, 0, 0, 0, 1, 0, 0}) || e != api.OK {
		t.Error(counts, pairs, e)
	}
	same := func(l []int, outcomes int) {
		t.Helper()
		counts, pairs, e := habit.Tally(l, outcomes)
		if len(counts) != outcomes || len(pairs) != outcomes*outcomes || e != api.OK {
			t.Fatal(l, outcomes, counts, pairs, e)
		}
		for k := range outcomes {
			n := 0
			for _, outcome := range l {
				if outcome == k {
					n++
				}
			}
			if counts[k] != n {
				t.Fatal(l, outcomes, counts)
			}
			for j := range outcomes {
				n := 0
				for i := 1; i < len(l); i++ {
					if l[i-1] == j && l[i] == k {
						n++
					}
				}
				if pairs[j*outcomes+k] != n {
					t.Fatal(l, outcomes, pairs)
				}
			}
		}
	}
	for l := range small(3, 6) {
		same(l, 3)
		same(l, 5)
	}
	next := noise(4)
	for range 30 {
		outcomes := 1 + next(31)
		same(someRegister(next, outcomes, next(400)), outcomes)
	}
	same(filled(400, 31), 32)
	same(filled(400, 0), 1)
}

// P9.7: what a deck needs, the chapter's example 3 among them, and as in the document's words.
func TestNeed(t *testing.T) {
	for i, c := range []struct {
		l               []int
		outcomes, after int
		want            []int
	}{
		{[]int{0, 0, 0, 1}, 2, 2, []int{2, 1}}, {[]int{0, 0, 0, 1}, 2, 1, []int{1, 1}}, {[]int{0, 0, 0, 1}, 2, 3, []int{3, 1}}, {[]int{0, 0, 0, 1}, 3, 400, []int{3, 1, 0}},
		{nil, 3, 1, []int{0, 0, 0}}, {[]int{0, 1, 1, 1}, 2, 2, []int{1, 2}}, {[]int{0, 1, 1, 1, 1}, 2, 2, []int{1, 2}}, {[]int{1, 0, 0}, 2, 2, []int{1, 1}},
		{filled(400, 0), 1, 400, []int{400}}, {filled(400, 0), 1, 399, []int{399}}, {filled(400, 0), 1, 1, []int{1}}, {filled(400, 31), 32, 7, append(filled(31, 0), 7)},
	} {
		if l, e := habit.Need(c.l, c.outcomes, c.after); !slices.Equal(l, c.want) || e != api.OK {
			t.Error(i, l, e)
		}
	}
	next := noise(5)
	for range 3000 {
		outcomes, after := 1+next(4), 1+next(9)
		l := someRegister(next, outcomes, next(40))
		want, lie := filled(outcomes, 0), filled(outcomes, 0)
		for _, outcome := range l {
			if sum(lie) == after {
				lie = filled(outcomes, 0)
			}
			lie[outcome]++
			want[outcome] = max(want[outcome], lie[outcome])
		}
		if n, e := habit.Need(l, outcomes, after); !slices.Equal(n, want) || e != api.OK {
			t.Fatal(l, outcomes, after, n, e)
		}
	}
}

// P9.7: the errors of Tally and Need, in their order.
func TestCountErrors(t *testing.T) {
	check := func(l []int, outcomes, after int, want api.Errno) {
		t.Helper()
		if n, e := habit.Need(l, outcomes, after); len(n) != 0 || e != want {
			t.Error(len(l), outcomes, after, want, n, e)
		}
		if after != 1 {
			return
		}
		if counts, pairs, e := habit.Tally(l, outcomes); len(counts) != 0 || len(pairs) != 0 || e != want {
			t.Error(len(l), outcomes, want, counts, pairs, e)
		}
	}
	for _, l := range [][]int{nil, {0}, {-1}, {40}, filled(401, 0)} {
		for _, n := range append(extremes(), 0, 33) {
			check(l, n, 1, api.ErrRange)
			check(l, n, 0, api.ErrRange)
		}
		for _, n := range append(extremes(), 0, 401) {
			check(l, 2, n, api.ErrRange)
		}
	}
	check(filled(401, 0), 2, 1, api.ErrLong)
	check(filled(401, 9), 2, 1, api.ErrLong)
	for _, n := range append(extremes(), 2, 3) {
		check([]int{0, n, 1}, 2, 1, api.ErrArg)
		check([]int{n}, 2, 400, api.ErrArg)
	}
	check([]int{32}, 32, 1, api.ErrArg)
	check([]int{1}, 1, 1, api.ErrArg)
}

// P9.8: runs, the chapter's example 6 among them, and as in the document's words; outcomes may be any numbers.
func TestLongest(t *testing.T) {
	same := func(l []int, want [3]int, f api.Errno) {
		t.Helper()
		if start, length, runs, e := habit.Longest(l); [3]int{start, length, runs} != want || e != f {
			t.Fatal(l, start, length, runs, e)
		}
	}
	same([]int{4, 4, 2, 7, 7}, [3]int{0, 2, 3}, api.OK)
	same([]int{1, 2, 2, 2, 1, 1}, [3]int{1, 3, 3}, api.OK)
	same(nil, [3]int{}, api.OK)
	same([]int{0}, [3]int{0, 1, 1}, api.OK)
	same([]int{-5}, [3]int{0, 1, 1}, api.OK)
	same(append([]int{5}, extremes()...), [3]int{0, 1, 11}, api.OK)
	same(filled(400, 1<<62), [3]int{0, 400, 1}, api.OK)
	same(append(filled(199, 3), filled(201, -3)...), [3]int{199, 201, 2}, api.OK)
	same(filled(401, 0), [3]int{}, api.ErrLong)
	for l := range small(3, 7) {
		want := [3]int{}
		for from := 0; from < len(l); want[2]++ {
			to := from
			for to < len(l) && l[to] == l[from] {
				to++
			}
			if to-from > want[1] {
				want[0], want[1] = from, to-from
			}
			from = to
		}
		same(l, want, api.OK)
	}
}
