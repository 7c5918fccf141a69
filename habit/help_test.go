package habit_test

import (
	"iter"
	"math"
	"math/big"
	"reflect"
	"slices"

	"astragal/api"
)

// part returns a chance.
func part(num, den int) api.Chance { return api.Chance{Num: num, Den: den} }

// steady returns a steady model, habitual a habitual one, and stacked one of a deck.
func steady(row ...int) api.Model { return api.Model{Kind: api.Steady, Rows: [][]int{row}} }

func habitual(rows ...[]int) api.Model { return api.Model{Kind: api.Habitual, Rows: rows} }

func stacked(after int, row ...int) api.Model {
	return api.Model{Kind: api.Stacked, Rows: [][]int{row}, After: after}
}

// twos are models with two outcomes, and threes with three.
func twos() []api.Model {
	return []api.Model{
		steady(1, 1), steady(3, 1), steady(2, 6), steady(0, 5), steady(1, 0), steady(1000, 999),
		habitual([]int{1, 1}, []int{1, 3}, []int{1, 1}), habitual([]int{2, 1}, []int{0, 7}, []int{5, 3}), habitual([]int{1, 0}, []int{1, 1}, []int{9, 1}),
		stacked(1, 2, 1), stacked(2, 2, 1), stacked(3, 2, 1), stacked(4, 3, 2), stacked(2, 0, 2), stacked(5, 1, 4),
	}
}

func threes() []api.Model {
	return []api.Model{
		steady(1, 1, 1), steady(6, 3, 2), steady(0, 3, 1), steady(0, 0, 4),
		habitual([]int{1, 2, 3}, []int{0, 1, 1}, []int{4, 0, 5}, []int{1, 1, 1}), habitual([]int{1, 1, 1}, []int{8, 1, 1}, []int{1, 8, 1}, []int{1, 1, 8}),
		stacked(1, 1, 2, 3), stacked(3, 1, 2, 3), stacked(6, 1, 2, 3), stacked(2, 2, 0, 1), stacked(5, 4, 4, 4),
	}
}

// registers yields all registers with so many outcomes and so many casts.
func registers(outcomes, casts int) iter.Seq[[]int] {
	return func(yield func([]int) bool) {
		l := make([]int, casts)
		for {
			if !yield(slices.Clone(l)) {
				return
			}
			k := 0
			for ; k < casts && l[k] == outcomes-1; k++ {
				l[k] = 0
			}
			if k == casts {
				return
			}
			l[k]++
		}
	}
}

// small yields all registers with so many outcomes and at most so many casts.
func small(outcomes, most int) iter.Seq[[]int] {
	return func(yield func([]int) bool) {
		for casts := range most + 1 {
			for l := range registers(outcomes, casts) {
				if !yield(l) {
					return
				}
			}
		}
	}
}

// someModel returns a model of any kind with so many outcomes and weights up to most.
func someModel(next func(int) int, outcomes, most int) api.Model {
	row := func() []int {
		l := make([]int, outcomes)
		for k := range l {
			l[k] = next(most)
		}
		l[next(outcomes-1)] = max(1, next(most))
		return l
	}
	switch next(2) {
	case 0:
		return steady(row()...)
	case 1:
		var rows [][]int
		for range outcomes + 1 {
			rows = append(rows, row())
		}
		return habitual(rows...)
	}
	cards := row()
	return stacked(1+next(sum(cards)-1), cards...)
}

// someRegister returns a register of so many casts, some of them equal to those before.
func someRegister(next func(int) int, outcomes, casts int) []int {
	l := make([]int, casts)
	for k := range l {
		if l[k] = next(outcomes - 1); k > 0 && next(2) == 0 {
			l[k] = l[k-1]
		}
	}
	return l
}

// played returns the chances of all casts in the document's words.
func played(m api.Model, l []int) []*big.Rat {
	var chances []*big.Rat
	var aside []int
	for k, outcome := range l {
		row, cards := m.Rows[0], 0
		if m.Kind == api.Habitual && k > 0 {
			row = m.Rows[l[k-1]+1]
		}
		if m.Kind == api.Stacked {
			if len(aside) == m.After {
				aside = nil
			}
			for _, card := range aside {
				if card == outcome {
					cards++
				}
			}
		}
		chances = append(chances, big.NewRat(int64(max(row[outcome]-cards, 0)), int64(sum(row)-len(aside))))
		if m.Kind == api.Stacked {
			aside = append(aside, outcome)
		}
	}
	return chances
}

// multiplied returns the product of fractions.
func multiplied(l []*big.Rat) *big.Rat {
	all := big.NewRat(1, 1)
	for _, x := range l {
		all.Mul(all, x)
	}
	return all
}

// likely returns the chance of a register in the document's words.
func likely(m api.Model, l []int) *big.Rat { return multiplied(played(m, l)) }

// isOver reports whether a fraction has a Den above the greatest one.
func isOver(x *big.Rat, most int) bool { return x.Denom().Cmp(big.NewInt(int64(most))) > 0 }

// chanceOf returns a fraction as a chance.
func chanceOf(x *big.Rat) api.Chance { return part(int(x.Num().Int64()), int(x.Denom().Int64())) }

// fractionOf returns a chance as a fraction.
func fractionOf(c api.Chance) *big.Rat { return big.NewRat(int64(c.Num), int64(c.Den)) }

// sum returns the sum of numbers.
func sum(l []int) int {
	all := 0
	for _, n := range l {
		all += n
	}
	return all
}

// filled returns so many equal numbers.
func filled(count, n int) []int { return slices.Repeat([]int{n}, count) }

// ok returns the result of a call that has no error.
func ok[T any](x T, e api.Errno) T {
	if e != api.OK {
		panic(e)
	}
	return x
}

// noise returns numbers from 0 to most that follow no simple rule, and the same ones for the same seed.
func noise(seed uint64) func(most int) int {
	return func(most int) int {
		seed = seed*6364136223846793005 + 1442695040888963407
		return int((seed >> 16) % uint64(most+1))
	}
}

// extremes are numbers that are too small or too great for everything.
func extremes() []int {
	return []int{math.MinInt, math.MinInt + 1, math.MinInt32, -1001, -1, 32001, 1 << 32, 1 << 62, math.MaxInt - 1, math.MaxInt}
}

// zero reports whether all of these are zero values, or empty lists.
func zero(l ...any) bool {
	for _, x := range l {
		if v := reflect.ValueOf(x); !v.IsZero() && (v.Kind() != reflect.Slice || v.Len() > 0) {
			return false
		}
	}
	return true
}
