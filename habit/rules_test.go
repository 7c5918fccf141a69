package habit_test

import (
	"reflect"
	"slices"
	"testing"

	"astragal/api"
	"astragal/habit"
)

// P1, R2: all functions terminate without a panic, whatever they are given, with zero values beside an error.
func TestAnyArguments(t *testing.T) {
	check := func(e api.Errno, results ...any) {
		t.Helper()
		if e != api.OK && !zero(results...) {
			t.Error(results, e)
		}
	}
	models := slices.Concat(badModels(), twos()[:7], []api.Model{steady(1), stacked(32000, filled(32, 1000)...)})
	lists := [][]int{nil, {0}, {0, 1, 1}, {2}, extremes(), filled(400, 0), filled(401, 0), filled(5000, -1)}
	numbers := append(extremes(), 0, 1, 2, 32, 33, 400, 401, api.MaxBelief, api.MaxNumber)
	for _, l := range lists {
		start, length, runs, e := habit.Longest(l)
		check(e, start, length, runs)
		for _, n := range numbers {
			counts, pairs, e := habit.Tally(l, n)
			check(e, counts, pairs)
			for _, m := range numbers {
				need, e := habit.Need(l, n, m)
				check(e, need)
				x, e := habit.Belief(part(n, m), steady(3, 1), steady(1, 1), l)
				check(e, x)
			}
		}
		for _, a := range models {
			check(habit.Check(a))
			for _, n := range numbers {
				x, e := habit.Step(a, l, n)
				check(e, x)
			}
			x, e := habit.Chance(a, l)
			check(e, x)
			n, e := habit.Excluded(a, l)
			check(e, n)
			for _, b := range []api.Model{{}, steady(1, 1), stacked(3, 2, 1), a} {
				errors(check, a, b, l)
			}
		}
		for _, n := range []int{0, 1, 20, 21, 5000} {
			ranks, e := habit.Rank(slices.Repeat([]api.Model{steady(1, 1)}, n), l)
			check(e, ranks)
		}
	}
}

// errors checks what functions with two models return beside an error.
func errors(check func(api.Errno, ...any), a, b api.Model, l []int) {
	n, e := habit.Compare(a, b, l)
	check(e, n)
	n, e = habit.Change(a, b, l)
	check(e, n)
	ranks, e := habit.Rank([]api.Model{a, b}, l)
	check(e, ranks)
	x, e := habit.Belief(part(1, 2), a, b, l)
	check(e, x)
}

// copied returns an equal copy of models.
func copied(models []api.Model) []api.Model {
	models = slices.Clone(models)
	for k, m := range models {
		models[k].Rows = slices.Clone(m.Rows)
		for j, row := range m.Rows {
			models[k].Rows[j] = slices.Clone(row)
		}
	}
	return models
}

// R4: no argument is changed, and no result shares memory with one, or with another one, or is kept.
func TestMemory(t *testing.T) {
	models, l := twos(), []int{0, 1, 1}
	others, k := copied(models), slices.Clone(l)
	spoil := func(lists ...[]int) {
		for _, list := range lists {
			list = list[:cap(list)]
			for i := range list {
				list[i] = -7
			}
		}
	}
	for range 2 {
		for _, a := range models {
			habit.Check(a)
			habit.Step(a, l, 1)
			habit.Chance(a, l)
			habit.Excluded(a, l)
			for _, b := range models {
				habit.Compare(a, b, l)
				habit.Belief(part(1, 2), a, b, l)
				habit.Change(a, b, l)
			}
		}
		habit.Longest(l)
		ranks := ok(habit.Rank(models[:3], l))
		need := ok(habit.Need(l, 2, 3))
		counts, pairs, _ := habit.Tally(l, 2)
		if !slices.Equal(ranks, []int{2, 0, 1}) || !slices.Equal(need, []int{1, 2}) {
			t.Error("kept memory", ranks, need)
		}
		spoil(counts)
		if !slices.Equal(pairs, []int{0, 1, 0, 1}) {
			t.Error("shared memory", pairs)
		}
		spoil(ranks, need, pairs)
		if !reflect.DeepEqual(models, others) || !slices.Equal(l, k) {
			t.Fatal("an argument was changed", models, l)
		}
	}
}

// R3: nil lists and empty ones are the same.
func TestNilAndEmpty(t *testing.T) {
	for _, l := range [][]int{nil, {}} {
		for _, m := range append(twos(), threes()...) {
			x, y := ok(habit.Chance(m, l)), ok(habit.Belief(part(2, 7), m, m, l))
			if n := ok(habit.Excluded(m, l)); x != part(1, 1) || y != part(2, 7) || n != -1 {
				t.Error(m, x, y, n)
			}
			if n, c := ok(habit.Compare(m, m, l)), ok(habit.Change(m, m, l)); n != 0 || c != 0 {
				t.Error(m, n, c)
			}
		}
		for _, models := range [][]api.Model{nil, {}} {
			if ranks, e := habit.Rank(models, l); len(ranks) != 0 || e != api.OK {
				t.Error(ranks, e)
			}
		}
		for _, rows := range [][][]int{nil, {}, {l}} {
			for kind := range 5 {
				if e := habit.Check(api.Model{Kind: api.ModelKind(kind), Rows: rows}); e != api.ErrArg {
					t.Error(kind, rows, e)
				}
			}
		}
	}
}
