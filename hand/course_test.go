package hand_test

import (
	"math"
	"math/big"
	"slices"
	"testing"

	"astragal/api"
	"astragal/hand"
)

// P2.2: ordinary courses, and the errors in their order: at tells the choice, the number of steps, or how many choices there are.
func TestCourses(t *testing.T) {
	for i, c := range []struct {
		h       api.Hand
		course  []int
		next    int
		outcome int
		den     int
		at      int
		e       api.Errno
	}{
		{h: throw(3, 2, 1, 3, 1), next: 2, e: api.ErrNone},
		{h: throw(3, 2, 1, 3, 1), course: []int{0, 1}, next: 2, at: 2, e: api.ErrNone},
		{h: throw(3, 2, 1, 3, 1), course: []int{0, 1, 1}, outcome: 8, den: 8},
		{h: throw(3, 2, 1, 3, 1), course: []int{0, 1, 1, 0}, at: 3, e: api.ErrLong},
		{h: throw(3, 2, 1, 3, 1), course: []int{0, 1, 1, 2}, at: 3, e: api.ErrLong},
		{h: throw(3, 2, 1, 3, 1), course: []int{0, 1, 1, -1, 7, 0}, at: 3, e: api.ErrLong},
		{h: throw(3, 2, 1, 3, 1), course: []int{0, 2, 5}, at: 1, e: api.ErrStep},
		{h: throw(3, 2, 1, 3, 1), course: []int{0, 2}, at: 1, e: api.ErrStep},
		{h: throw(3, 2, 1, 3, 1), course: []int{0, 1, -1, 0, 0}, at: 2, e: api.ErrStep},
		{h: throw(3, 2, 1, 3, 1), course: []int{math.MinInt}, at: 0, e: api.ErrStep},
		{h: throw(3, 2, 1, 3, 1), course: []int{math.MaxInt, 0, 0, 0}, at: 0, e: api.ErrStep},
		{h: throw(1, 1, 1, 3, 4, 4, 4, 6, 1), course: []int{0}, outcome: 1, den: 10},
		{h: throw(1, 1, 1, 3, 4, 4, 4, 6, 1), course: []int{1}, outcome: 3, den: 10},
		{h: throw(1, 1, 1, 3, 4, 4, 4, 6, 1), course: []int{4}, outcome: 3, den: 10},
		{h: throw(1, 1, 1, 3, 4, 4, 4, 6, 1), course: []int{5}, outcome: 4, den: 10},
		{h: throw(1, 1, 1, 3, 4, 4, 4, 6, 1), course: []int{9}, outcome: 6, den: 10},
		{h: throw(1, 1, 1, 3, 4, 4, 4, 6, 1), course: []int{10}, at: 0, e: api.ErrStep},
		{h: throw(2, 40, 3, 0, 1), course: []int{3, 2}, outcome: 40, den: 16},
		{h: throw(8, 0, 1), course: filled(8, 0), den: 1},
		{h: throw(8, 0, 1), course: filled(7, 0), next: 1, at: 7, e: api.ErrNone},
		{h: marks(5, 9), next: 5, e: api.ErrNone},
		{h: marks(5, 9), course: []int{0}, outcome: 1, den: 5},
		{h: marks(5, 9), course: []int{3}, outcome: 0, den: 5},
		{h: marks(5, 9), course: []int{5}, at: 0, e: api.ErrStep},
		{h: marks(5, 9), course: []int{4, 4}, at: 1, e: api.ErrLong},
		{h: marks(1, api.MaxMarks), course: []int{api.MaxMarks - 1}, outcome: 0, den: api.MaxMarks},
		{h: stalks(9, 4, 1), next: 7, e: api.ErrNone},
		{h: stalks(9, 4, 1), course: []int{0}, outcome: 1, den: 7},
		{h: stalks(9, 4, 1), course: []int{3}, outcome: 0, den: 7},
		{h: stalks(9, 4, 1), course: []int{6}, outcome: 1, den: 7},
		{h: stalks(9, 4, 1), course: []int{7}, at: 0, e: api.ErrStep},
		{h: stalks(49, 4, 3), course: []int{0}, next: 42, at: 1, e: api.ErrNone},
		{h: stalks(49, 4, 3), course: []int{3}, next: 38, at: 1, e: api.ErrNone},
		{h: stalks(49, 4, 3), course: []int{3, 38}, at: 1, e: api.ErrStep},
		{h: stalks(49, 4, 3), course: []int{0, 0, 0}, outcome: 9, den: 47 * 42 * 38},
		{h: stalks(49, 4, 3), course: []int{0, 38, 0}, outcome: 8, den: 47 * 42 * 34},
		{h: stalks(49, 4, 3), course: []int{0, 0, 0, 0}, at: 3, e: api.ErrLong},
		{h: draw(2, 0, 0, 1), next: 3, e: api.ErrNone},
		{h: draw(2, 0, 0, 1), course: []int{2, 1}, outcome: 8, den: 6},
		{h: draw(2, 0, 0, 1), course: []int{1}, next: 2, at: 1, e: api.ErrNone},
		{h: draw(2, 0, 0, 1), course: []int{1, 2}, at: 1, e: api.ErrStep},
		{h: draw(2, 0, 0, 1), course: []int{1, 1, 0}, at: 2, e: api.ErrLong},
		{h: draw(4, 1, 2, 3, 4), course: []int{1, 1, 1, 0}, outcome: 2*512 + 3*64 + 4*8 + 1, den: 24},
		{h: cut(3, 5, 3), next: 3, e: api.ErrNone},
		{h: cut(3, 5, 3), course: []int{1}, outcome: 5, den: 3},
		{h: cut(3, 5, 3), course: []int{2}, outcome: 3, den: 3},
		{h: cut(3, 5, 3), course: []int{3}, at: 0, e: api.ErrStep},
		{h: cut(3, 5, 3), course: []int{0, 0}, at: 1, e: api.ErrLong},
	} {
		// What Run and Chance refuse as too short is no error of Next.
		at, e := c.at, c.e
		if e == api.ErrNone {
			at, e = 0, api.OK
		}
		if n, a, f := hand.Next(c.h, c.course); n != c.next || a != at || f != e {
			t.Error(i, "Next", n, a, f)
		}
		if o, a, f := hand.Run(c.h, c.course); o != c.outcome || a != c.at || f != c.e {
			t.Error(i, "Run", o, a, f)
		}
		var want api.Chance
		if c.den > 0 {
			want = api.Chance{Num: 1, Den: c.den}
		}
		if x, a, f := hand.Chance(c.h, c.course); x != want || a != c.at || f != c.e {
			t.Error(i, "Chance", x, a, f)
		}
		if n, a, f := hand.Rank(c.h, c.course); c.e != api.OK && (n != 0 || a != c.at || f != c.e) {
			t.Error(i, "Rank", n, a, f)
		}
	}
}

// P2.2: the product of the numbers of choices at the limit itself, and one step of a choice more; errors of the course come first.
func TestSmallestChance(t *testing.T) {
	for i, c := range []struct {
		h api.Hand
		e api.Errno
	}{
		{throw(5, 3, 999, 0, 1), api.OK},
		{throw(5, 3, 1000, 0, 1), api.ErrFull},
		{throw(8, 1, 75), api.ErrFull}, // 75^8 is above MaxNumber, 74^8 is not
		{throw(8, 1, 74), api.OK},
		{throw(8, 1, 1000, 2, 1000, 3, 1000, 4, 1000), api.ErrFull},
	} {
		course := make([]int, c.h.Count)
		x, at, e := hand.Chance(c.h, course)
		if at != 0 || e != c.e || (e == api.OK) != (x.Num == 1) || (e != api.OK) != (x.Den == 0) {
			t.Error(i, x, at, e)
		}
		if i == 0 && x.Den != most {
			t.Error("the greatest denominator", x)
		}
		outcome, at, e := hand.Run(c.h, course)
		if outcome != c.h.Count*c.h.Faces[0].Value || at != 0 || e != api.OK {
			t.Error(i, "Run", outcome, at, e)
		}
		if x, at, e := hand.Chance(c.h, course[1:]); x != (api.Chance{}) || at != c.h.Count-1 || e != api.ErrNone {
			t.Error(i, "too short", x, at, e)
		}
		if x, at, e := hand.Chance(c.h, append(course, 0)); x != (api.Chance{}) || at != c.h.Count || e != api.ErrLong {
			t.Error(i, "too long", x, at, e)
		}
		course[2] = -1
		if x, at, e := hand.Chance(c.h, course); x != (api.Chance{}) || at != 2 || e != api.ErrStep {
			t.Error(i, "no such choice", x, at, e)
		}
	}
}

// P2.2: all courses of small hands, and all their beginnings, are as if they were played.
func TestPlayed(t *testing.T) {
	for _, h := range smallHands() {
		for course := range allCourses(h) {
			p := play(h, course)
			if o, at, e := hand.Run(h, course); o != p.outcome || at != 0 || e != api.OK {
				t.Fatal(h, course, "Run", o, at, e, "want", p.outcome)
			}
			x, at, e := hand.Chance(h, course)
			if at != 0 || e != api.OK || big.NewRat(int64(x.Num), int64(x.Den)).Cmp(unit(p.choices)) != 0 {
				t.Fatal(h, course, "Chance", x, at, e, "want", p.choices)
			}
			for k := range len(course) + 1 {
				n, at, e := hand.Next(h, course[:k])
				if at != 0 || e != api.OK || k == len(course) && n != 0 || k < len(course) && n != p.choices[k] {
					t.Fatal(h, course[:k], "Next", n, at, e, "want", p.choices)
				}
			}
		}
	}
}

// P2.6: the first cast that is not as it was written down, with what Run says of it.
func TestAudit(t *testing.T) {
	coins := throw(3, 2, 1, 3, 1)
	good := []api.Cast{{Course: []int{0, 1, 1}, Outcome: 8}, {Course: []int{0, 0, 0}, Outcome: 6}}
	for i, c := range []struct {
		last api.Cast
		at   int
		e    api.Errno
	}{
		{api.Cast{Course: []int{1, 1, 1}, Outcome: 8}, 9, api.ErrState},
		{api.Cast{Course: []int{0, 0, 0}, Outcome: 0}, 6, api.ErrState},
		{api.Cast{Course: []int{0, 0, 0}, Outcome: -1}, 6, api.ErrState},
		{api.Cast{Course: []int{0, 0, 0}, Outcome: math.MaxInt}, 6, api.ErrState},
		{api.Cast{Course: []int{1, 2, 1}, Outcome: 8}, 1, api.ErrStep},
		{api.Cast{Course: []int{1, 2, 1}}, 1, api.ErrStep},
		{api.Cast{Course: []int{1}}, 1, api.ErrNone},
		{api.Cast{}, 0, api.ErrNone},
		{api.Cast{Course: make([]int, 4), Outcome: 6}, 3, api.ErrLong},
	} {
		record := append(slices.Clone(good), c.last)
		if cast, at, e := hand.Audit(coins, record); cast != 2 || at != c.at || e != c.e {
			t.Error(i, cast, at, e)
		}
		record = append(record, api.Cast{}, api.Cast{Course: []int{9}})
		if cast, at, e := hand.Audit(coins, record); cast != 2 || at != c.at || e != c.e {
			t.Error(i, "not the first one", cast, at, e)
		}
		if cast, at, e := hand.Audit(coins, record[2:]); cast != 0 || at != c.at || e != c.e {
			t.Error(i, "not the first one", cast, at, e)
		}
	}
	for _, record := range [][]api.Cast{nil, {}, good, good[:1]} {
		if cast, at, e := hand.Audit(coins, record); cast != -1 || at != 0 || e != api.OK {
			t.Error(record, cast, at, e)
		}
	}
	// A course whose chance can not be told can be written down all the same.
	heavy := []api.Cast{{Course: make([]int, 8), Outcome: 8}}
	if cast, at, e := hand.Audit(throw(8, 1, 1000), heavy); cast != -1 || at != 0 || e != api.OK {
		t.Error("heavy", cast, at, e)
	}
}

// P2.6: as many casts as there can be, and one more, whatever is wrong with them.
func TestLongRecord(t *testing.T) {
	record := slices.Repeat([]api.Cast{{Course: []int{1}, Outcome: 5}}, api.MaxRecord+1)
	if cast, at, e := hand.Audit(cut(3, 5), record); cast != 0 || at != 0 || e != api.ErrLong {
		t.Error(cast, at, e)
	}
	if cast, at, e := hand.Audit(cut(3, 5), record[1:]); cast != -1 || at != 0 || e != api.OK {
		t.Error(cast, at, e)
	}
	record[0].Outcome = 3
	if cast, at, e := hand.Audit(cut(3, 5), record); cast != 0 || at != 0 || e != api.ErrLong {
		t.Error(cast, at, e)
	}
	if cast, at, e := hand.Audit(cut(3, 5), record[:api.MaxRecord]); cast != 0 || at != 5 || e != api.ErrState {
		t.Error(cast, at, e)
	}
	record[api.MaxRecord].Course = []int{2}
	if cast, at, e := hand.Audit(cut(3, 5), record[1:]); cast != api.MaxRecord-1 || at != 0 || e != api.ErrStep {
		t.Error(cast, at, e)
	}
}
