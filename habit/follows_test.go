package habit_test

import (
	"math/big"
	"slices"
	"testing"

	"astragal/api"
	"astragal/habit"
	"astragal/odds"
)

// P9.9: chances are compared just as by odds, exchanged models give the opposite, and what is excluded is no better than anything.
func TestExact(t *testing.T) {
	for _, a := range twos() {
		for _, b := range twos() {
			for l := range small(2, 6) {
				x, e := habit.Chance(a, l)
				y, f := habit.Chance(b, l)
				if e != api.OK || f != api.OK {
					continue
				}
				n := ok(habit.Compare(a, b, l))
				if want := ok(odds.Compare(x, y)); n != want {
					t.Fatal(a, b, l, n, want)
				}
				if m := ok(habit.Compare(b, a, l)); m != -n {
					t.Fatal(a, b, l, n, m)
				}
				excluded := ok(habit.Excluded(a, l)) >= 0
				if excluded != (x == part(0, 1)) || excluded && n > 0 {
					t.Fatal(a, b, l, n)
				}
			}
		}
	}
}

// P9.10: what is equal in the counts, or in the pairs and the first cast, has the same chance.
func TestWhatCounts(t *testing.T) {
	type counted struct {
		counts, pairs [9]int
		first         int
	}
	for _, m := range threes() {
		if m.Kind == api.Stacked {
			continue
		}
		known := map[counted]api.Chance{}
		for l := range registers(3, 6) {
			var key counted
			counts, pairs, e := habit.Tally(l, 3)
			if e != api.OK {
				t.Fatal(e)
			}
			if copy(key.counts[:], counts); m.Kind == api.Habitual {
				copy(key.pairs[:], pairs)
				key.counts, key.first = [9]int{}, l[0]
			}
			x := ok(habit.Chance(m, l))
			if y, found := known[key]; found && x != y {
				t.Fatal(m, l, x, y)
			}
			known[key] = x
		}
	}
}

// P9.10: with every weight of a row doubled nothing changes, but for decks.
func TestDoubled(t *testing.T) {
	for _, m := range append(twos(), threes()...) {
		for k, row := range m.Rows {
			if m.Kind == api.Stacked || slices.Max(row) > api.MaxWeight/2 {
				continue
			}
			n := copied([]api.Model{m})[0]
			for j := range row {
				n.Rows[k][j] *= 2
			}
			for l := range small(len(row), 5) {
				if ok(habit.Chance(m, l)) != ok(habit.Chance(n, l)) || ok(habit.Compare(m, n, l)) != 0 {
					t.Fatal(m, k, l)
				}
			}
		}
	}
	if n := ok(habit.Compare(stacked(2, 2, 1), stacked(2, 4, 2), []int{1, 1})); n != -1 {
		t.Error("a doubled deck", n)
	}
}

// P9.11: the chances of all registers of the same length add up to 1.
func TestAllRegisters(t *testing.T) {
	add := func(m api.Model, outcomes, casts int) {
		t.Helper()
		all, one := new(big.Rat), big.NewRat(1, 1)
		for l := range registers(outcomes, casts) {
			all.Add(all, fractionOf(ok(habit.Chance(m, l))))
		}
		if all.Cmp(one) != 0 {
			t.Error(m, casts, all)
		}
	}
	for casts := range 8 {
		for _, m := range twos() {
			if m.Rows[0][0] < 1000 || casts < 5 { // beyond, Chance refuses the numbers
				add(m, 2, casts)
			}
		}
		for _, m := range threes() {
			add(m, 3, casts)
		}
	}
	add(steady(5), 1, 400)
}

// P9.12: a deck excludes no cast just if it has at least as many cards of each outcome as are needed.
func TestDecks(t *testing.T) {
	for cards := range registers(3, 3) {
		for after := 1; after <= sum(cards); after++ {
			for l := range small(3, 5) {
				enough := true
				for k, n := range ok(habit.Need(l, 3, after)) {
					enough = enough && cards[k] >= n
				}
				if n := ok(habit.Excluded(stacked(after, cards...), l)); n < 0 != enough {
					t.Fatal(cards, after, l, n)
				}
			}
		}
	}
	next := noise(6)
	for range 2000 {
		outcomes := 1 + next(3)
		m := someModel(next, outcomes, 4)
		if m.Kind != api.Stacked {
			continue
		}
		l := someRegister(next, outcomes, next(50))
		need := ok(habit.Need(l, outcomes, m.After))
		enough := !slices.ContainsFunc([]int{0, 1, 2, 3}[:outcomes], func(k int) bool { return m.Rows[0][k] < need[k] })
		if n := ok(habit.Excluded(m, l)); n < 0 != enough {
			t.Fatal(m, l, n)
		}
	}
}

// P9.13: by steady models a belief goes on where it was left.
func TestBeliefGoesOn(t *testing.T) {
	before := part(3, 7)
	for _, a := range []api.Model{steady(3, 1), steady(1, 1), steady(2, 5), steady(0, 1)} {
		for _, b := range []api.Model{steady(3, 1), steady(1, 1), steady(4, 1), steady(1, 0)} {
			for first := range small(2, 3) {
				for second := range small(2, 3) {
					x, e := habit.Belief(before, a, b, first)
					if e != api.OK {
						continue
					}
					x, e = habit.Belief(x, a, b, second)
					y, f := habit.Belief(before, a, b, slices.Concat(first, second))
					if x != y || e != f {
						t.Fatal(a, b, first, second, x, e, y, f)
					}
				}
			}
		}
	}
}

// P9.13: a belief rises just if the register has a greater chance by the first model, if it is neither 0 nor 1.
func TestBeliefRises(t *testing.T) {
	seen := map[int]int{}
	for _, a := range twos() {
		for _, b := range twos() {
			for l := range small(2, 4) {
				for _, x := range []api.Chance{part(1, 2), part(1, 9), part(8, 9), part(0, 1), part(1, 1)} {
					y, e := habit.Belief(x, a, b, l)
					if e != api.OK {
						continue
					}
					rises := ok(odds.Compare(y, x))
					if x.Den == 1 {
						if rises != 0 {
							t.Fatal(x, a, b, l, y)
						}
					} else if seen[rises]++; rises != ok(habit.Compare(a, b, l)) {
						t.Fatal(x, a, b, l, y)
					}
				}
			}
		}
	}
	if min(seen[-1], seen[0], seen[1]) == 0 {
		t.Error(seen)
	}
}
