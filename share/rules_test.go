package share_test

import (
	"reflect"
	"slices"
	"testing"

	"astragal/api"
	"astragal/share"
)

// P1, R2: all functions terminate without a panic, whatever they are given, with zero values beside an error.
func TestAnyArguments(t *testing.T) {
	check := func(e api.Errno, results ...any) {
		t.Helper()
		if e != api.OK && !zero(results...) {
			t.Error(results, e)
		}
	}
	numbers := append(extremes(), 0, 1, 2, 3, 31, 32, 38759, 38760)
	lists := [][][]int{nil, {}, {nil}, {nil, nil}, {{0}, {1}}, {{1, 0}, {-1}}, {extremes(), extremes()}, {filled(8, 0), filled(8, 7)}, slices.Repeat([][]int{{0, 1, 2}}, 5), slices.Repeat([][]int{filled(100, 0)}, 5000)}
	for _, d := range append(badDraws(), goodDraws()...) {
		check(share.Check(d))
		count, e := share.Count(d)
		check(e, count)
		offices, missing, e := share.Block(d)
		check(e, offices, missing)
		for _, n := range numbers {
			a, e := share.Nth(d, n)
			check(e, a)
			short, e := share.Short(d, n)
			check(e, short)
		}
		for _, a := range lists {
			rule, at, e := share.Obeys(d, a)
			check(e, rule, at)
			rank, e := share.Rank(d, a)
			check(e, rank)
		}
	}
	for _, m := range append(badMachines(), machine(nil), full(), machine([]int{3, 1}, []int{2}), machine(lists[len(lists)-1]...)) {
		for _, n := range []int{0, 1, 2, 20, 21, 5000} {
			chosen, left, e := share.Draw(m, make([]bool, n))
			check(e, chosen, left)
		}
		for _, n := range numbers {
			persons, chances, e := share.Chosen(m, n)
			check(e, persons, chances)
		}
	}
	for _, r := range append(badRotas(), rota(20, 6), rota(1, 1, []int{0}), rota(20, 1, lists[len(lists)-1]...), rota(3, 1, nil), rota(3, 2, []int{0, 1}, []int{0, 1})) {
		must, may, many, e := share.Due(r)
		check(e, must, may, many)
		first, e := share.Fair(r)
		check(e, first)
		for _, n := range numbers {
			l, e := share.Serve(r, n)
			check(e, l)
		}
	}
}

// spoil overwrites lists, and what lies behind them.
func spoil(lists ...[]int) {
	for _, l := range lists {
		l = l[:cap(l)]
		for i := range l {
			l[i] = -7
		}
	}
}

// R4: no argument is changed, and no result shares memory with one, or with another one, or is kept.
func TestMemory(t *testing.T) {
	draw := func() api.ShareDraw { return three(group(1, 0, 1)) }
	d, a, m, balls, r := draw(), [][]int{{2}, {0}}, machine([]int{3, 1, 2}, []int{5, 4}), []bool{false, true}, rota(5, 2, []int{0, 1}, []int{2, 3})
	for range 2 {
		share.Check(d)
		share.Obeys(d, a)
		share.Count(d)
		share.Short(d, 3)
		share.Block(d)
		share.Fair(r)
		if n := ok(share.Rank(d, a)); n != 2 {
			t.Error("kept memory", n)
		}
		b := ok(share.Nth(d, 2))
		spoil(b[0])
		if !slices.Equal(b[1], []int{0}) {
			t.Error("shared memory", b)
		}
		spoil(b[1])
		chosen, left, _ := share.Draw(m, balls)
		if spoil(chosen); !slices.Equal(left, []int{2}) {
			t.Error("shared memory", left)
		}
		persons, chances, _ := share.Chosen(m, 1)
		if spoil(left, persons); chances[0] != (api.Chance{Num: 1, Den: 2}) {
			t.Error("shared memory", chances)
		}
		must, may, _, _ := share.Due(r)
		if spoil(must); !slices.Equal(may, []int{0, 1, 2, 3}) {
			t.Error("shared memory", may)
		}
		l := ok(share.Serve(r, 3))
		if spoil(may); !slices.Equal(l, []int{3, 4}) {
			t.Error("kept memory", l)
		}
		spoil(l)
		same := reflect.DeepEqual(d, draw()) && reflect.DeepEqual(a, [][]int{{2}, {0}}) && reflect.DeepEqual(balls, []bool{false, true})
		if !same || !reflect.DeepEqual(m, machine([]int{3, 1, 2}, []int{5, 4})) || !reflect.DeepEqual(r, rota(5, 2, []int{0, 1}, []int{2, 3})) {
			t.Fatal("an argument was changed", d, a, m, balls, r)
		}
	}
}

// R3: nil lists and empty ones are the same.
func TestNilAndEmpty(t *testing.T) {
	for _, l := range [][]int{nil, {}} {
		d := three()
		for _, groups := range [][]api.ShareGroup{nil, {}} {
			d.Groups = groups
			if n := ok(share.Count(d)); n != 6 {
				t.Error(n)
			}
		}
		if rule, at, e := share.Obeys(d, [][]int{{0}, l}); rule != api.ShareSeats || at != 1 || e != api.OK {
			t.Error(rule, at, e)
		}
		if e := share.Check(api.ShareDraw{Limits: l, Offices: d.Offices}); e != api.ErrArg {
			t.Error(e)
		}
		for _, balls := range [][]bool{nil, {}} {
			if chosen, left, e := share.Draw(machine([]int{1}, l), balls); len(chosen) != 0 || !slices.Equal(left, []int{1}) || e != api.OK {
				t.Error(chosen, left, e)
			}
		}
		if e := second(share.Fair(rota(3, 1, l))); e != api.ErrArg {
			t.Error(e)
		}
	}
	for _, lists := range [][][]int{nil, {}} {
		if e := second(share.Rank(three(), lists)); e != api.ErrForm {
			t.Error(e)
		}
		if e := second(share.Fair(api.Rota{Persons: 3, Seats: 1, Past: lists})); e != api.OK {
			t.Error(e)
		}
		if persons, chances, e := share.Chosen(api.ShareMachine{Columns: lists}, 0); !zero(persons, chances) || e != api.ErrArg {
			t.Error(persons, chances, e)
		}
	}
}

// second returns the error of a call.
func second[T any](_ T, e api.Errno) api.Errno { return e }
