package share_test

import (
	"math/big"
	"slices"
	"testing"

	"astragal/api"
	"astragal/share"
)

// machine returns a machine with these columns.
func machine(columns ...[]int) api.ShareMachine { return api.ShareMachine{Columns: columns} }

// numbers returns so many numbers from one on.
func numbers(from, count int) []int {
	l := make([]int, count)
	for k := range l {
		l[k] = from + k
	}
	return l
}

// full returns the greatest machine.
func full() api.ShareMachine {
	m := api.ShareMachine{}
	for k := range 10 {
		m.Columns = append(m.Columns, numbers(api.MaxNumber-20*k-19, 20))
	}
	return m
}

// badMachines are machines that are not valid.
func badMachines() []api.ShareMachine {
	l := []api.ShareMachine{
		{}, machine([][]int{}...), machine(slices.Repeat([][]int{nil}, 11)...), machine(append(full().Columns, []int{1})...), machine(numbers(0, 21)), machine(numbers(0, 20), numbers(20, 21)), machine(numbers(0, 5000)),
		machine([]int{1, 1}), machine([]int{1, 2}, []int{3, 1}), machine([]int{1}, nil, []int{1}), machine([]int{0, 5, 7, 0}), machine([]int{-1}), machine([]int{3}, []int{4, -1}), machine([]int{api.MaxNumber + 1}), machine([]int{1, 2, api.MaxNumber + 1}),
	}
	for _, n := range extremes() {
		if n < 0 || n > api.MaxNumber {
			l = append(l, machine([]int{n}), machine([]int{1}, []int{2, n}))
		}
	}
	return l
}

// rowsOf returns the rows of a machine in the document's words.
func rowsOf(m api.ShareMachine) [][]int {
	var rows [][]int
	for k := range 20 {
		var row []int
		for _, column := range m.Columns {
			if k < len(column) {
				row = append(row, column[k])
			}
		}
		if len(row) == len(m.Columns) {
			rows = append(rows, row)
		}
	}
	return rows
}

// drawn returns whom a machine chooses and leaves out, in the document's words.
func drawn(m api.ShareMachine, balls []bool) (chosen, left []int) {
	var placed []int
	for k, row := range rowsOf(m) {
		if placed = append(placed, row...); balls[k] {
			chosen = append(chosen, row...)
		}
	}
	for _, person := range slices.Concat(m.Columns...) {
		if !slices.Contains(placed, person) {
			left = append(left, person)
		}
	}
	slices.Sort(chosen)
	slices.Sort(left)
	return chosen, left
}

// noiseMachine returns a valid machine that follows no rule.
func noiseMachine(next func(int) int, columns, rows, least int) api.ShareMachine {
	m := api.ShareMachine{}
	for range 1 + next(columns-1) {
		var l []int
		for range least + next(rows-least) {
			person := next(1000)
			for slices.Contains(slices.Concat(append(m.Columns, l)...), person) {
				person = next(1000)
			}
			l = append(l, person)
		}
		m.Columns = append(m.Columns, l)
	}
	return m
}

// orders returns all orders of so many balls, of which so many are white.
func orders(count, white int) [][]bool {
	var all [][]bool
	for s := range 1 << count {
		balls := make([]bool, count)
		n := 0
		for k := range balls {
			if s&(1<<k) != 0 {
				balls[k] = true
				n++
			}
		}
		if n == white {
			all = append(all, balls)
		}
	}
	return all
}

// P10.4: the chapter's example 4, and others.
func TestDraw(t *testing.T) {
	yes, no := true, false
	for i, c := range []struct {
		m            api.ShareMachine
		balls        []bool
		chosen, left []int
		e            api.Errno
	}{
		{machine([]int{1, 2, 3}, []int{4, 5}), []bool{yes, no}, []int{1, 4}, []int{3}, api.OK},
		{machine([]int{1, 2, 3}, []int{4, 5}), []bool{no, yes}, []int{2, 5}, []int{3}, api.OK},
		{machine([]int{1, 2, 3}, []int{4, 5}), []bool{no, no}, nil, []int{3}, api.OK},
		{machine([]int{9, 2, 7}, []int{4, 5, 0}), []bool{yes, yes, yes}, []int{0, 2, 4, 5, 7, 9}, nil, api.OK},
		{machine([]int{9, 7, 3, 1}, []int{4}), []bool{yes}, []int{4, 9}, []int{1, 3, 7}, api.OK},
		{machine(nil), nil, nil, nil, api.OK},
		{machine([]int{6, 0}, nil), nil, nil, []int{0, 6}, api.OK},
		{machine([]int{0, api.MaxNumber}), []bool{yes, no}, []int{0}, nil, api.OK},
		{machine([]int{1, 2, 3}, []int{4, 5}), []bool{yes, no, yes}, nil, nil, api.ErrForm},
		{machine([]int{1, 2, 3}, []int{4, 5}), []bool{yes}, nil, nil, api.ErrForm},
		{machine([]int{1, 2, 3}, []int{4, 5}), nil, nil, nil, api.ErrForm},
		{machine(nil), []bool{no}, nil, nil, api.ErrForm},
		{machine([]int{1}), make([]bool, 5000), nil, nil, api.ErrForm},
	} {
		if chosen, left, e := share.Draw(c.m, c.balls); !slices.Equal(chosen, c.chosen) || !slices.Equal(left, c.left) || e != c.e {
			t.Error(i, chosen, left, e)
		}
	}
	if chosen, left, e := share.Draw(full(), slices.Repeat([]bool{yes}, 20)); !slices.Equal(chosen, numbers(api.MaxNumber-199, 200)) || len(left) != 0 || e != api.OK {
		t.Error(chosen, left, e)
	}
	for i, m := range badMachines() {
		for n := range 22 {
			chosen, left, e := share.Draw(m, make([]bool, n))
			persons, chances, f := share.Chosen(m, n-1)
			if !zero(chosen, left, persons, chances) || e != api.ErrArg || f != api.ErrArg {
				t.Error(i, n, chosen, left, e, persons, chances, f)
			}
		}
	}
}

// P10.4, P10.10: any machines as in the document's words.
func TestDraws(t *testing.T) {
	next, left := noise(6), 0
	for range 3000 {
		m := noiseMachine(next, 10, 20, 0)
		balls := make([]bool, len(rowsOf(m)))
		white := 0
		for k := range balls {
			if balls[k] = next(1) == 1; balls[k] {
				white++
			}
		}
		c, l, e := share.Draw(m, balls)
		if chosen, out := drawn(m, balls); !slices.Equal(c, chosen) || !slices.Equal(l, out) || e != api.OK {
			t.Fatal(m, balls, c, l, e)
		}
		if len(c) != white*len(m.Columns) {
			t.Fatal(m, balls, c)
		}
		left += len(l)
	}
	if left < 1000 {
		t.Error("too few are left out", left)
	}
}

// P10.5: the chapter's example 4, and others.
func TestChosen(t *testing.T) {
	part := func(num, den int) api.Chance { return api.Chance{Num: num, Den: den} }
	half, never, sure := part(1, 2), part(0, 1), part(1, 1)
	for i, c := range []struct {
		m       api.ShareMachine
		white   int
		persons []int
		chances []api.Chance
		e       api.Errno
	}{
		{machine([]int{1, 2, 3}, []int{4, 5}), 1, []int{1, 2, 3, 4, 5}, []api.Chance{half, half, never, half, half}, api.OK},
		{machine([]int{5, 2, 3}, []int{4, 1}), 0, []int{1, 2, 3, 4, 5}, []api.Chance{never, never, never, never, never}, api.OK},
		{machine([]int{5, 2, 3}, []int{4, 1}), 2, []int{1, 2, 3, 4, 5}, []api.Chance{sure, sure, never, sure, sure}, api.OK},
		{machine(numbers(0, 6)), 4, numbers(0, 6), slices.Repeat([]api.Chance{part(2, 3)}, 6), api.OK},
		{machine(numbers(0, 20)), 15, numbers(0, 20), slices.Repeat([]api.Chance{part(3, 4)}, 20), api.OK},
		{machine([]int{6, 0}, nil), 0, []int{0, 6}, []api.Chance{never, never}, api.OK},
		{machine(nil), 0, nil, nil, api.OK},
		{machine([]int{1, 2, 3}, []int{4, 5}), 3, nil, nil, api.ErrRange},
		{machine([]int{1, 2, 3}, []int{4, 5}), -1, nil, nil, api.ErrRange},
		{machine([]int{6, 0}, nil), 1, nil, nil, api.ErrRange},
		{machine(numbers(0, 20)), 21, nil, nil, api.ErrRange},
	} {
		if persons, chances, e := share.Chosen(c.m, c.white); !slices.Equal(persons, c.persons) || !slices.Equal(chances, c.chances) || e != c.e {
			t.Error(i, persons, chances, e)
		}
	}
	for _, n := range extremes() {
		if persons, chances, e := share.Chosen(full(), n); !zero(persons, chances) || e != api.ErrRange {
			t.Error(n, persons, chances, e)
		}
	}
}

// P10.5, P10.10: chances are how often all orders of the balls choose a person; together they are as many as are chosen.
func TestChances(t *testing.T) {
	next := noise(7)
	for range 300 {
		m := noiseMachine(next, 4, 7, 1)
		count := len(rowsOf(m))
		for white := range count + 1 {
			all, times := orders(count, white), map[int]int64{}
			for _, balls := range all {
				chosen, left, e := share.Draw(m, balls)
				if e != api.OK {
					t.Fatal(m, balls, e)
				}
				for _, person := range chosen {
					times[person]++
				}
				for _, person := range left {
					times[person] = 0
				}
			}
			persons, chances, e := share.Chosen(m, white)
			if want := slices.Sorted(slices.Values(slices.Concat(m.Columns...))); !slices.Equal(persons, want) || len(chances) != len(want) || e != api.OK {
				t.Fatal(m, white, persons, chances, e)
			}
			sum := new(big.Rat)
			for k, c := range chances {
				x := big.NewRat(times[persons[k]], int64(len(all)))
				if !x.Num().IsInt64() || x.Num().Int64() != int64(c.Num) || x.Denom().Int64() != int64(c.Den) {
					t.Fatal(m, white, persons[k], c, x)
				}
				sum.Add(sum, x)
			}
			if sum.Cmp(big.NewRat(int64(white*len(m.Columns)), 1)) != 0 {
				t.Fatal(m, white, sum)
			}
		}
	}
}
