package hand_test

import (
	"math"
	"math/big"
	"slices"
	"testing"

	"astragal/api"
	"astragal/hand"
)

// P2.3: ordinary hands, and weights in lowest terms.
func TestWeights(t *testing.T) {
	for i, c := range []struct {
		h    api.Hand
		want []int
	}{
		{throw(3, 2, 1, 3, 1), []int{0, 0, 0, 0, 0, 0, 1, 3, 3, 1}},
		{throw(1, 1, 1, 3, 4, 4, 4, 6, 1), []int{0, 1, 0, 4, 4, 0, 1}},
		{throw(1, 1, 500, 0, 1000), []int{2, 1}},
		{throw(1, 2, 6), []int{0, 0, 1}},
		{throw(8, 0, 7), []int{1}},
		{throw(2, 1, 1, 0, 1, 1, 1), []int{1, 4, 4}},
		{marks(5, 9), []int{2, 3}},
		{marks(4, 9), []int{1, 1}},
		{marks(3, 3), []int{0, 1}},
		{marks(2, 2), []int{1, 0}},
		{marks(2, 4), []int{2, 1}},
		{marks(1, 999), []int{499, 500}},
		{stalks(9, 4, 1), []int{1, 6, 0}},
		{stalks(13, 4, 1), []int{0, 2, 9, 0}},
		{stalks(13, 4, 2), []int{5, 6, 0, 0}},
		{stalks(5, 2, 1), []int{1, 2, 0}},
		{cut(3, 5, 3), []int{0, 0, 0, 2, 0, 1, 0, 0}},
		{cut(2, 2, 2), []int{0, 0, 1, 0, 0, 0, 0, 0}},
		{draw(1, 7, 7, 6), []int{0, 0, 0, 0, 0, 0, 1, 2}},
	} {
		if w, e := hand.Weights(c.h); !slices.Equal(w, c.want) || e != api.OK {
			t.Error(i, w, e)
		}
	}
	w, e := hand.Weights(draw(2, 0, 0, 1))
	if want := append([]int{1, 1, 0, 0, 0, 0, 0, 0, 1}, filled(55, 0)...); !slices.Equal(w, want) || e != api.OK {
		t.Error(w, e)
	}
}

// P2.3: a common denominator at the limit itself, and one beyond.
func TestCommonDenominator(t *testing.T) {
	for i, c := range []struct {
		h    api.Hand
		last int
		e    api.Errno
	}{
		{throw(5, 3, 1, 0, 999), 1, api.OK},
		{throw(5, 3, 1, 0, 1000), 0, api.ErrFull},
		{throw(8, 1, 74), 1, api.OK},
		{throw(8, 1, 75), 0, api.ErrFull},
		{throw(8, 40, 1000, 39, 1000, 0, 1000, 1, 1000), 0, api.ErrFull},
	} {
		w, e := hand.Weights(c.h)
		if e != c.e || e != api.OK && len(w) > 0 || e == api.OK && w[len(w)-1] != c.last {
			t.Error(i, w, e)
		}
	}
}

// step is the exact weights of what all courses of stalks have come to, by how many there are.
type step map[int]*big.Rat

// exactStalks returns the common denominator of stalks, and the chances of their outcomes.
func exactStalks(h api.Hand) (*big.Int, []*big.Rat) {
	all, now := big.NewInt(1), step{h.Count: big.NewRat(1, 1)}
	for range h.Changes {
		next := step{}
		common := big.NewInt(1)
		for n, chance := range now {
			size := big.NewInt(int64(n - 2))
			common.Div(new(big.Int).Mul(common, size), new(big.Int).GCD(nil, nil, common, size))
			for c := range n - 2 {
				left := h
				left.Count, left.Changes = n, 1
				to := playStalksLeft(left, c)
				if next[to] == nil {
					next[to] = new(big.Rat)
				}
				next[to].Add(next[to], new(big.Rat).Mul(chance, big.NewRat(1, int64(n-2))))
			}
		}
		all.Mul(all, common)
		now = next
	}
	chances := make([]*big.Rat, h.Count/h.Group+1)
	for k := range chances {
		chances[k] = new(big.Rat)
	}
	for n, chance := range now {
		chances[n/h.Group].Add(chances[n/h.Group], chance)
	}
	return all, chances
}

// playStalksLeft returns how many stalks one change leaves.
func playStalksLeft(h api.Hand, choice int) int {
	return playStalks(h, []int{choice}).outcome * h.Group
}

// P2.3: the weights of all stalks, and which of them have too great a common denominator.
func TestAllStalks(t *testing.T) {
	valid, full := 0, 0
	for group := 2; group <= api.MaxGroup; group++ {
		for count := 2*group + 1; count <= api.MaxStalks; count++ {
			for changes := 1; changes <= api.MaxChanges; changes++ {
				h := stalks(count, group, changes)
				if hand.Check(h) != api.OK {
					continue
				}
				valid++
				common, chances := exactStalks(h)
				w, e := hand.Weights(h)
				if common.Cmp(big.NewInt(most)) > 0 {
					full++
					if e != api.ErrFull || len(w) > 0 {
						t.Error(h, w, e, "common denominator", common)
					}
					continue
				}
				if e != api.OK || !sameChances(w, chances) {
					t.Error(h, w, e)
				}
			}
		}
	}
	t.Log("valid", valid, "of which too great", full)
	if full == 0 || full == valid {
		t.Error("no stalks are at the limit")
	}
}

// sameChances reports whether weights are in lowest terms and give outcomes these chances.
func sameChances(w []int, chances []*big.Rat) bool {
	sum, by := new(big.Int), new(big.Int)
	for _, x := range w {
		sum.Add(sum, big.NewInt(int64(x)))
		by.GCD(nil, nil, by, big.NewInt(int64(x)))
	}
	if len(w) != len(chances) || by.Cmp(big.NewInt(1)) != 0 {
		return false
	}
	for k, x := range w {
		if new(big.Rat).SetFrac(big.NewInt(int64(x)), sum).Cmp(chances[k]) != 0 {
			return false
		}
	}
	return true
}

// P2.3, P2.7: the weights of small hands are those of all their courses, whose chances add up to 1.
func TestWeightsOfCourses(t *testing.T) {
	for _, h := range smallHands() {
		chances := make([]*big.Rat, ok(hand.Outcomes(h)))
		for k := range chances {
			chances[k] = new(big.Rat)
		}
		sum := new(big.Rat)
		for course := range allCourses(h) {
			x := unit(play(h, course).choices)
			outcome, _, _ := hand.Run(h, course)
			chances[outcome].Add(chances[outcome], x)
			sum.Add(sum, x)
		}
		if w, e := hand.Weights(h); e != api.OK || !sameChances(w, chances) || sum.Cmp(big.NewRat(1, 1)) != 0 {
			t.Error(h, w, e, sum)
		}
	}
}

// P2.7: if a step has as many choices in all courses, weights are the numbers of courses in lowest terms.
func TestWeightsAreCounts(t *testing.T) {
	hands := append(smallHands(), draw(4, 0, 1, 2, 3, 4, 5, 6, 7, 0, 1, 2, 3, 4, 5, 6, 7, 0, 1, 2, 3), throw(8, 1, 9, 40, 2, 3, 1, 0, 7, 13, 13), throw(5, 3, 1, 0, 999))
	for _, h := range hands {
		if h.Kind == api.HandStalks && h.Changes > 1 {
			continue
		}
		counts, by := make([]int, ok(hand.Outcomes(h))), new(big.Int)
		for k := range counts {
			counts[k] = ok(hand.Courses(h, k))
			by.GCD(nil, nil, by, big.NewInt(int64(counts[k])))
		}
		for k := range counts {
			counts[k] /= int(by.Int64())
		}
		if w := ok(hand.Weights(h)); !slices.Equal(w, counts) {
			t.Error(h, w, counts)
		}
	}
}

// P2.4, P2.5: how many courses there are, which ones, and their numbers.
func TestNumbers(t *testing.T) {
	for i, c := range []struct {
		h       api.Hand
		outcome int
		all     [][]int
	}{
		{throw(3, 2, 1, 3, 1), 8, [][]int{{0, 1, 1}, {1, 0, 1}, {1, 1, 0}}},
		{throw(3, 2, 1, 3, 1), 5, nil},
		{throw(3, 2, 1, 3, 1), 0, nil},
		{throw(3, 2, 1, 3, 1), 9, [][]int{{1, 1, 1}}},
		{throw(2, 1, 1, 0, 2, 1, 1), 1, [][]int{{0, 1}, {0, 2}, {1, 0}, {1, 3}, {2, 0}, {2, 3}, {3, 1}, {3, 2}}},
		{throw(1, 1, 1, 3, 4, 4, 4, 6, 1), 3, [][]int{{1}, {2}, {3}, {4}}},
		{throw(1, 1, 1, 3, 4, 4, 4, 6, 1), 6, [][]int{{9}}},
		{marks(5, 9), 0, [][]int{{1}, {3}}},
		{marks(5, 9), 1, [][]int{{0}, {2}, {4}}},
		{marks(5, 5), 0, nil},
		{stalks(9, 4, 1), 0, [][]int{{3}}},
		{stalks(9, 4, 1), 1, [][]int{{0}, {1}, {2}, {4}, {5}, {6}}},
		{stalks(9, 4, 1), 2, nil},
		{stalks(13, 4, 2), 1, [][]int{{0, 0}, {0, 1}, {0, 4}, {0, 5}, {1, 0}, {1, 1}, {1, 4}, {1, 5}, {2, 0}, {2, 1}, {2, 4}, {2, 5}, {4, 0}, {4, 1}, {4, 4}, {4, 5}, {5, 0}, {5, 1}, {5, 4}, {5, 5}, {6, 0}, {6, 1}, {6, 4}, {6, 5}, {8, 0}, {8, 1}, {8, 4}, {8, 5}, {9, 0}, {9, 1}, {9, 4}, {9, 5}, {10, 0}, {10, 1}, {10, 4}, {10, 5}}},
		{draw(2, 0, 0, 1), 8, [][]int{{2, 0}, {2, 1}}},
		{draw(2, 0, 0, 1), 1, [][]int{{0, 1}, {1, 1}}},
		{draw(2, 0, 0, 1), 0, [][]int{{0, 0}, {1, 0}}},
		{draw(2, 0, 0, 1), 9, nil},
		{draw(2, 0, 0, 1), 63, nil},
		{cut(3, 5, 3), 3, [][]int{{0}, {2}}},
		{cut(3, 5, 3), 7, nil},
	} {
		if n, e := hand.Courses(c.h, c.outcome); n != len(c.all) || e != api.OK {
			t.Error(i, n, e)
		}
		for k, course := range c.all {
			l, e := hand.Nth(c.h, c.outcome, k)
			n, at, f := hand.Rank(c.h, course)
			if !slices.Equal(l, course) || e != api.OK || n != k || at != 0 || f != api.OK {
				t.Error(i, k, l, e, n, at, f)
			}
		}
		for _, k := range []int{len(c.all), -1, math.MaxInt, math.MinInt} {
			if l, e := hand.Nth(c.h, c.outcome, k); len(l) != 0 || e != api.ErrNone {
				t.Error(i, k, l, e)
			}
		}
	}
}

// P2.4, P2.5, P2.8: all courses of small hands in their order have the numbers from 0 on, and add up to all of them.
func TestThereAndBack(t *testing.T) {
	for _, h := range smallHands() {
		counts := make([]int, ok(hand.Outcomes(h)))
		all := 0
		for course := range allCourses(h) {
			outcome := play(h, course).outcome
			n, at, e := hand.Rank(h, course)
			if n != counts[outcome] || at != 0 || e != api.OK {
				t.Fatal(h, course, "Rank", n, at, e, "want", counts[outcome])
			}
			if l, e := hand.Nth(h, outcome, n); !slices.Equal(l, course) || e != api.OK {
				t.Fatal(h, course, "Nth", l, e)
			}
			counts[outcome]++
			all++
		}
		for outcome, want := range counts {
			n, e := hand.Courses(h, outcome)
			if n != want || e != api.OK {
				t.Fatal(h, outcome, "Courses", n, e, "want", want)
			}
			if l, e := hand.Nth(h, outcome, n); len(l) > 0 || e != api.ErrNone {
				t.Fatal(h, outcome, "Nth", l, e)
			}
			all -= n
		}
		if all != 0 {
			t.Error(h, all)
		}
	}
}

// P2.8: Rank of Nth is the number, and Nth grows with it, where there are many courses.
func TestManyCourses(t *testing.T) {
	next := noise(8)
	for _, h := range []api.Hand{
		throw(5, 3, 999, 0, 1), throw(8, 1, 9, 40, 2, 3, 1, 0, 7, 13, 13), throw(8, 0, 5, 1, 60, 0, 9), throw(8, 40, 1, 39, 2, 38, 3, 37, 4, 36, 5, 35, 6, 34, 7),
		stalks(64, 2, 5), stalks(64, 8, 3), stalks(49, 4, 3), stalks(50, 3, 5),
		draw(4, 0, 1, 2, 3, 4, 5, 6, 7, 0, 1, 2, 3, 4, 5, 6, 7, 0, 1, 2, 3), draw(4, filled(20, 7)...),
	} {
		all := 0
		for outcome := range ok(hand.Outcomes(h)) {
			n := ok(hand.Courses(h, outcome))
			all += n
			if n == 0 || h.Kind == api.HandDraw && outcome%97 > 0 && outcome < 4095 {
				continue
			}
			numbers := []int{0, n - 1, n / 2, next(n - 1), next(n - 1), next(n - 1)}
			slices.Sort(numbers)
			var before []int
			for _, k := range slices.Compact(numbers) {
				course := ok(hand.Nth(h, outcome, k))
				if o, _, _ := hand.Run(h, course); o != outcome || slices.Compare(before, course) >= 0 {
					t.Error(h, k, course, "of the outcome", o, "behind", before)
				}
				if r, at, e := hand.Rank(h, course); r != k || at != 0 || e != api.OK {
					t.Error(h, k, course, r, at, e)
				}
				before = course
			}
		}
		if h.Kind != api.HandStalks {
			sizes := 1
			for _, n := range play(h, make([]int, h.Count)).choices[:h.Count] {
				sizes *= n
			}
			if all != sizes {
				t.Error(h, all, "courses, want", sizes)
			}
		}
	}
}

// P2.4, P2.5: as many courses as there can be, and too many, and the errors in their order.
func TestCountErrors(t *testing.T) {
	limit, heavy := throw(5, 3, 999, 0, 1), throw(5, 3, 1000, 0, 1)
	for _, c := range []struct {
		h       api.Hand
		outcome int
		e       api.Errno
	}{
		{limit, 16, api.ErrRange}, {limit, -1, api.ErrRange}, {limit, math.MaxInt, api.ErrRange}, {limit, math.MinInt, api.ErrRange},
		{heavy, 16, api.ErrRange}, {heavy, -1, api.ErrRange}, {heavy, 15, api.ErrFull}, {heavy, 0, api.ErrFull}, {heavy, 1, api.ErrFull},
		{throw(8, 1, 1000), 8, api.ErrFull}, {throw(8, 1, 75), 8, api.ErrFull}, {throw(8, 1, 1000, 2, 1000, 3, 1000), 0, api.ErrFull},
		{marks(1, 2), 2, api.ErrRange}, {stalks(9, 4, 1), 3, api.ErrRange}, {draw(2, 1, 2), 64, api.ErrRange}, {cut(1), 8, api.ErrRange}, {throw(1, 0, 1), 1, api.ErrRange},
	} {
		n, e := hand.Courses(c.h, c.outcome)
		l, f := hand.Nth(c.h, c.outcome, -1)
		if n != 0 || e != c.e || len(l) > 0 || f != c.e {
			t.Error(c, n, e, l, f)
		}
	}
	if n := ok(hand.Courses(limit, 15)); n != 999*999*999*999*999 {
		t.Error("courses at the limit", n)
	}
	for _, c := range []struct {
		course []int
		at     int
		e      api.Errno
	}{
		{make([]int, 5), 0, api.ErrFull}, {make([]int, 4), 4, api.ErrNone}, {make([]int, 6), 5, api.ErrLong}, {[]int{0, 1001}, 1, api.ErrStep},
	} {
		if n, at, e := hand.Rank(heavy, c.course); n != 0 || at != c.at || e != c.e {
			t.Error(c, n, at, e)
		}
	}
}

// P2.9: each choice below Next can be made, none beyond it; a course is complete just if Next is 0.
func TestSteps(t *testing.T) {
	for _, h := range smallHands() {
		for course := range allCourses(h) {
			for k := range len(course) + 1 {
				begun := slices.Clone(course[:k])
				n, _, _ := hand.Next(h, begun)
				_, _, e := hand.Run(h, begun)
				if (n == 0) != (e == api.OK) {
					t.Fatal(h, begun, n, e)
				}
				if n == 0 {
					continue
				}
				for _, c := range []int{0, n / 2, n - 1, n, -1} {
					_, at, e := hand.Next(h, append(begun, c))
					if can := c >= 0 && c < n; can != (e == api.OK) || !can && (at != k || e != api.ErrStep) {
						t.Fatal(h, begun, n, c, at, e)
					}
				}
			}
		}
	}
}
