package hexagram_test

import (
	"math"
	"math/big"
	"slices"
	"testing"

	"astragal/api"
	"astragal/hexagram"
)

// weighed returns weights of lines as lists of them are.
func weighed(w ...int) []int { return slices.Clip(append(make([]int, 6), w...)) }

// lowest divides numbers by what divides them all.
func lowest(l []*big.Int) []int {
	by := new(big.Int)
	for _, n := range l {
		by.GCD(nil, nil, by, n)
	}
	low := make([]int, len(l))
	for k, n := range l {
		low[k] = int(new(big.Int).Div(n, by).Int64())
	}
	return low
}

// numbers returns so many zeros.
func numbers(n int) []*big.Int {
	l := make([]*big.Int, n)
	for k := range l {
		l[k] = new(big.Int)
	}
	return l
}

// P4.7: cast by cast.
func TestChances(t *testing.T) {
	next := noise(47)
	lists := [][]int{weighed(1, 3, 3, 1), weighed(1, 5, 7, 3), weighed(79, 79, 79, 79), weighed(316, 0, 0, 0), weighed(0, 0, 0, 316), weighed(0, 316, 0, 0), weighed(0, 0, 7, 0), weighed(6, 4, 2, 8), weighed(1, 313, 1, 1), weighed(157, 0, 0, 158)}
	for range 12 {
		lists = append(lists, append(weighed(next(79), next(79), next(79), next(78)+1), make([]int, next(10))...))
	}
	for _, w := range lists {
		figures, changes, moving := numbers(64), numbers(4096), numbers(7)
		for lines, pair := range everyCast {
			weight, moves := big.NewInt(1), 0
			for _, n := range lines {
				weight.Mul(weight, big.NewInt(int64(w[n])))
				if n == 6 || n == 9 {
					moves++
				}
			}
			figures[pair[0]].Add(figures[pair[0]], weight)
			changes[64*pair[0]+pair[1]].Add(changes[64*pair[0]+pair[1]], weight)
			moving[moves].Add(moving[moves], weight)
		}
		was := slices.Clone(w)
		if l := ok(hexagram.Figures(w)); !slices.Equal(l, lowest(figures)) {
			t.Error(w, l)
		}
		if l := ok(hexagram.Changes(w)); !slices.Equal(l, lowest(changes)) {
			t.Error(w, l[:10])
		}
		if l := ok(hexagram.Moving(w)); !slices.Equal(l, lowest(moving)) {
			t.Error(w, l)
		}
		if !slices.Equal(w, was) {
			t.Error(w, was)
		}
	}
}

// P4.7: what are no weights of lines, then weights that are too great.
func TestChancesErrors(t *testing.T) {
	at := func(place, n int, w ...int) []int {
		l := append(weighed(w...), make([]int, 10)...)
		l[place] = n
		return l
	}
	cases := []struct {
		w []int
		e api.Errno
	}{
		{nil, api.ErrArg}, {weighed(1, 1, 1), api.ErrArg}, {weighed(0, 0, 0, 0), api.ErrArg}, {make([]int, 20), api.ErrArg}, {append(weighed(1, 1, 1, 1), make([]int, 11)...), api.ErrArg},
		{weighed(math.MinInt, 1, 1, 1), api.ErrArg}, {weighed(1, -1, 1, 1), api.ErrArg}, {weighed(400, 400, 400, -1), api.ErrArg},
		{weighed(316, 1, 0, 0), api.ErrHeavy}, {weighed(0, 0, 0, 317), api.ErrHeavy}, {weighed(317, 0, 0, 0), api.ErrHeavy}, {weighed(79, 80, 79, 79), api.ErrHeavy}, {weighed(math.MaxInt, math.MaxInt, math.MaxInt, math.MaxInt), api.ErrHeavy}, {weighed(0, 1, math.MaxInt, 0), api.ErrHeavy}, {weighed(1<<62, 1<<62, 1<<62, 1<<62), api.ErrHeavy}, {append(weighed(300, 0, 17, 0), make([]int, 10)...), api.ErrHeavy},
		{weighed(315, 1, 0, 0), api.OK}, {weighed(0, 0, 0, 316), api.OK}, {append(weighed(1, 1, 1, 1), make([]int, 10)...), api.OK},
	}
	for place := range 20 {
		if place < 6 || place > 9 {
			for _, n := range []int{1, -1, math.MaxInt, math.MinInt} {
				cases = append(cases, struct {
					w []int
					e api.Errno
				}{at(place, n, 1, 1, 1, 1), api.ErrArg}, struct {
					w []int
					e api.Errno
				}{at(place, n, 400, 400, 400, 400), api.ErrArg})
			}
		}
	}
	for _, c := range cases {
		for name, call := range map[string]func([]int) ([]int, api.Errno){"Figures": hexagram.Figures, "Changes": hexagram.Changes, "Moving": hexagram.Moving} {
			if l, e := call(c.w); e != c.e || (len(l) == 0) != (e != api.OK) {
				t.Error(name, c, len(l), e)
			}
		}
	}
}

// P4.14: one list of chances says what the others say.
func TestChancesAgree(t *testing.T) {
	next := noise(414)
	for range 10 {
		w := weighed(next(70), next(70), next(70), next(70)+1)
		changes := ok(hexagram.Changes(w))
		figures, moving := numbers(64), numbers(7)
		kinds := map[[4]int]int{}
		for lines, pair := range everyCast {
			n, moves, of := changes[64*pair[0]+pair[1]], 0, [4]int{}
			for _, x := range lines {
				of[x-6]++
				if x%3 == 0 {
					moves++
				}
			}
			if before, there := kinds[of]; there && before != n {
				t.Error(w, lines, n, before)
			}
			kinds[of] = n
			figures[pair[0]].Add(figures[pair[0]], big.NewInt(int64(n)))
			moving[moves].Add(moving[moves], big.NewInt(int64(n)))
		}
		if !slices.Equal(ok(hexagram.Figures(w)), lowest(figures)) || !slices.Equal(ok(hexagram.Moving(w)), lowest(moving)) {
			t.Error(w)
		}
		a, b := next(70), next(70)+1
		if l := ok(hexagram.Figures(weighed(a, b, b, a))); !slices.Equal(l, slices.Repeat([]int{1}, 64)) {
			t.Error(a, b, l)
		}
	}
}

// The sixth example of the chapter.
func TestExampleOfChances(t *testing.T) {
	if l := ok(hexagram.Figures(weighed(1, 3, 3, 1))); !slices.Equal(l, slices.Repeat([]int{1}, 64)) {
		t.Error(l)
	}
	if l := ok(hexagram.Moving(weighed(1, 3, 3, 1))); !slices.Equal(l, []int{729, 1458, 1215, 540, 135, 18, 1}) {
		t.Error(l)
	}
}
