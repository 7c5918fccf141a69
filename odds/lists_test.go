package odds_test

import (
	"math"
	"math/big"
	"slices"
	"testing"

	"astragal/api"
	"astragal/odds"
)

// P1.7: pairs, with the limits themselves and one beyond.
func TestJoin(t *testing.T) {
	one := append([]int{1}, filled(63, 0)...)
	for i, c := range []struct {
		a, b, want []int
		e          api.Errno
	}{
		{[]int{1, 2}, []int{3, 0, 1}, []int{3, 0, 1, 6, 0, 2}, api.OK},
		{[]int{3, 0, 1}, []int{1, 2}, []int{3, 6, 0, 0, 1, 2}, api.OK},
		{[]int{2}, []int{4, 6}, []int{8, 12}, api.OK},
		{one, one, append([]int{1}, filled(4095, 0)...), api.OK},
		{[]int{1}, filled(api.MaxOutcomes, 1), filled(api.MaxOutcomes, 1), api.OK},
		{[]int{most / 2}, []int{1, 1}, []int{most / 2, most / 2}, api.OK},
		{[]int{most}, []int{0, 1}, []int{0, most}, api.OK},
		{filled(17, 1), filled(241, 1), nil, api.ErrLong}, // 4097 pairs
		{[]int{1, 0}, filled(api.MaxOutcomes, 1), nil, api.ErrLong},
		{[]int{most, 0}, filled(api.MaxOutcomes, 1), nil, api.ErrLong},
		{[]int{most/2 + 1}, []int{1, 1}, nil, api.ErrOver},
		{[]int{1, 1, 1}, []int{most/3 + 1}, nil, api.ErrOver},
		{[]int{most}, []int{most}, nil, api.ErrOver},
	} {
		if l, e := odds.Join(c.a, c.b); !slices.Equal(l, c.want) || e != c.e {
			t.Error(i, len(l), e)
		}
	}
}

// P1.8: sums of two, with the limits themselves and one beyond.
func TestSum(t *testing.T) {
	for i, c := range []struct {
		a, b, want []int
		e          api.Errno
	}{
		{[]int{1, 1}, []int{1, 1}, []int{1, 2, 1}, api.OK},
		{[]int{1, 1}, []int{1, 2, 3}, []int{1, 3, 5, 3}, api.OK},
		{[]int{0, 2}, []int{0, 0, 4}, []int{0, 0, 0, 8}, api.OK},
		{[]int{2}, []int{3}, []int{6}, api.OK},
		{[]int{1, 0}, []int{1, 0}, []int{1, 0, 0}, api.OK},
		{[]int{most / 2}, []int{1, 1}, []int{most / 2, most / 2}, api.OK},
		{[]int{1}, filled(api.MaxOutcomes, 2), filled(api.MaxOutcomes, 2), api.OK},
		{append([]int{1}, filled(2047, 0)...), filled(2049, 1), append(filled(2049, 1), filled(2047, 0)...), api.OK},
		{filled(2048, 1), filled(2050, 1), nil, api.ErrLong},
		{filled(2, most/2), filled(api.MaxOutcomes, 1), nil, api.ErrLong},
		{[]int{most/2 + 1}, []int{1, 1}, nil, api.ErrOver},
		{[]int{most}, []int{1, 1}, nil, api.ErrOver},
	} {
		if l, e := odds.Sum(c.a, c.b); !slices.Equal(l, c.want) || e != c.e {
			t.Error(i, len(l), e)
		}
	}
}

// P1.8: sums of some outcomes of one list, with the limits themselves and one beyond.
func TestRepeat(t *testing.T) {
	ends := append(filled(64, 0), 1)
	for i, c := range []struct {
		w     []int
		times int
		want  []int
		e     api.Errno
	}{
		{[]int{1, 1}, 3, []int{1, 3, 3, 1}, api.OK},
		{[]int{1, 1, 1}, 2, []int{1, 2, 3, 2, 1}, api.OK},
		{[]int{2, 4}, 1, []int{2, 4}, api.OK},
		{[]int{2, 4}, 0, []int{1}, api.OK},
		{filled(api.MaxOutcomes, 1), 0, []int{1}, api.OK},
		{filled(api.MaxOutcomes, 1), 1, filled(api.MaxOutcomes, 1), api.OK},
		{[]int{most}, 1, []int{most}, api.OK},
		{[]int{10}, 15, []int{most}, api.OK},
		{[]int{1}, api.MaxTimes, []int{1}, api.OK},
		{ends[1:], api.MaxTimes, append(filled(63*64, 0), 1), api.OK},
		{[]int{1, 1}, -1, nil, api.ErrRange},
		{[]int{1, 1}, api.MaxTimes + 1, nil, api.ErrRange},
		{[]int{1, 1}, math.MaxInt, nil, api.ErrRange},
		{[]int{1, 1}, math.MinInt, nil, api.ErrRange},
		{filled(api.MaxOutcomes, 1), api.MaxTimes + 1, nil, api.ErrRange},
		{ends, api.MaxTimes, nil, api.ErrLong}, // 4097 outcomes
		{filled(2049, most/4096), 2, nil, api.ErrLong},
		{filled(1025, 900000000), 4, nil, api.ErrLong}, // 4097 outcomes; the sum is too great after two times
		{[]int{10}, 16, nil, api.ErrOver},
		{[]int{most}, 2, nil, api.ErrOver},
		{[]int{1, 1}, 49, nil, api.OK},
		{[]int{1, 1}, 50, nil, api.ErrOver},
		{[]int{most}, api.MaxTimes, nil, api.ErrOver},
	} {
		l, e := odds.Repeat(c.w, c.times)
		if e != c.e || c.want != nil && !slices.Equal(l, c.want) || e != api.OK && len(l) > 0 {
			t.Error(i, len(l), e)
		}
	}
}

// P1.9: a choice of a case, then of an outcome.
func TestMix(t *testing.T) {
	for i, c := range []struct {
		cases []int
		lists [][]int
		want  []int
	}{
		{[]int{1, 1}, [][]int{{1, 0}, {1, 2}}, []int{2, 1}},
		{[]int{1, 2, 3}, [][]int{{1, 1, 0}, {0, 1, 1}, {1, 0, 1}}, []int{4, 3, 5}},
		{[]int{7}, [][]int{{4, 6}}, []int{2, 3}},
		{[]int{5, 0}, [][]int{{5, 5}, {1, 2}}, []int{1, 1}},
		{[]int{0, 5}, [][]int{{5, 5}, {1, 2}}, []int{1, 2}},
		{[]int{2, 2}, [][]int{{3, 3}, {5, 5}}, []int{1, 1}},
		{[]int{1, 1}, [][]int{{1, 0, 0}, {0, 1, 0}}, []int{1, 1, 0}},
		{[]int{1, 3}, [][]int{{1}, {9}}, []int{1}},
		{[]int{2, 4, 0}, [][]int{{2, 2}, {6, 2}, {1, most - 1}}, []int{2, 1}},
	} {
		if l, e := odds.Mix(c.cases, c.lists); !slices.Equal(l, c.want) || e != api.OK {
			t.Error(i, l, e)
		}
	}
}

// P1.9: the greatest numbers, and those beyond: L and C times L count, of lists and cases in lowest terms.
func TestMixOver(t *testing.T) {
	const half = most / 2
	for i, c := range []struct {
		cases []int
		lists [][]int
		want  []int
		e     api.Errno
	}{
		{[]int{half, half}, [][]int{{1, half - 1}, {1, half - 1}}, []int{1, half - 1}, api.OK},    // C is 2, L is half
		{[]int{1, 1}, [][]int{{1, half - 1}, {half, 0}}, []int{half + 1, half - 1}, api.OK},       // the second list is 1, 0
		{[]int{1, 0}, [][]int{{1, most - 1}, {1, most - 2}}, []int{1, most - 1}, api.OK},          // the second case is not chosen
		{[]int{1, 0}, [][]int{{most, 0}, {0, most}}, []int{1, 0}, api.OK},                         // L is 1
		{[]int{most}, [][]int{{most - 1, 1}}, []int{most - 1, 1}, api.OK},                         // C is 1
		{[]int{1, most - 1}, [][]int{{1, 0}, {0, 1}}, []int{1, most - 1}, api.OK},                 // C is most, L is 1
		{[]int{1, 1}, [][]int{{1, half}, {1, half}}, nil, api.ErrOver},                            // C times L is most + 2
		{[]int{1, 1}, [][]int{{1, most - 1}, {1, most - 1}}, nil, api.ErrOver},                    // C times L, though the mixture would do
		{[]int{1, most - 1}, [][]int{{1, 1}, {0, 1}}, nil, api.ErrOver},                           // C is most, L is 2
		{[]int{1, 1}, [][]int{{1, 1000000006}, {1, 999999936}}, nil, api.ErrOver},                 // L alone
		{[]int{1, 1, 1}, [][]int{{1, 40000002}, {1, 50000020}, {1, 999999936}}, nil, api.ErrOver}, // L of three, not of two
	} {
		if l, e := odds.Mix(c.cases, c.lists); !slices.Equal(l, c.want) || e != c.e {
			t.Error(i, l, e)
		}
	}
}

// P1.9: errors in their order.
func TestMixErrors(t *testing.T) {
	long := filled(api.MaxOutcomes+1, 1)
	for i, c := range []struct {
		cases []int
		lists [][]int
		e     api.Errno
	}{
		{nil, nil, api.ErrArg},
		{nil, [][]int{long}, api.ErrArg},
		{[]int{0, 0}, [][]int{long, long}, api.ErrArg},
		{long, nil, api.ErrLong},
		{long, [][]int{nil}, api.ErrLong},
		{[]int{1}, nil, api.ErrArg},
		{[]int{1, 1}, [][]int{long}, api.ErrArg},
		{[]int{1, 1}, [][]int{long, {1}, {1}}, api.ErrArg},
		{[]int{1, 1}, [][]int{long, {0}}, api.ErrLong},
		{[]int{1, 1}, [][]int{{0}, long}, api.ErrArg},
		{[]int{1, 0}, [][]int{{1}, long}, api.ErrLong}, // also of a case that can not be chosen
		{[]int{1, 0}, [][]int{{1}, nil}, api.ErrArg},
		{[]int{1, 1, 1}, [][]int{{1}, {1, 1}, long}, api.ErrLong},
		{[]int{1, 1}, [][]int{{1}, {1, 1}}, api.ErrArg},
		{[]int{1, 0}, [][]int{{1}, {1, 1}}, api.ErrArg},
		{[]int{1, 1}, [][]int{{1, most - 1}, {1, 2, 4}}, api.ErrArg},
	} {
		if l, e := odds.Mix(c.cases, c.lists); len(l) > 0 || e != c.e {
			t.Error(i, l, e)
		}
	}
}

// exactMix is Mix by numbers of any size.
func exactMix(cases []int, lists [][]int) ([]int, api.Errno) {
	bound, common := big.NewInt(most), big.NewInt(1)
	choice := bigSum(cases)
	choice.Div(choice, bigDivisor(cases))
	mixed := make([]*big.Rat, len(lists[0]))
	for k := range mixed {
		mixed[k] = new(big.Rat)
	}
	for c, l := range lists {
		if cases[c] == 0 {
			continue
		}
		sum := bigSum(l)
		sum.Div(sum, bigDivisor(l))
		common = bigMultiple(common, sum)
		for k := range l {
			mixed[k].Add(mixed[k], new(big.Rat).Mul(share(cases, c), share(l, k)))
		}
	}
	if common.Cmp(bound) > 0 || new(big.Int).Mul(common, choice).Cmp(bound) > 0 {
		return nil, api.ErrOver
	}
	scale := big.NewInt(1)
	for _, x := range mixed {
		scale = bigMultiple(scale, x.Denom())
	}
	var w []int
	for _, x := range mixed {
		w = append(w, int(new(big.Rat).Mul(x, new(big.Rat).SetInt(scale)).Num().Int64()))
	}
	return w, api.OK
}

// bigSum returns the sum of a list.
func bigSum(l []int) *big.Int {
	sum := new(big.Int)
	for _, x := range l {
		sum.Add(sum, big.NewInt(int64(x)))
	}
	return sum
}

// bigDivisor returns the greatest number that divides all of a list.
func bigDivisor(l []int) *big.Int {
	by := new(big.Int)
	for _, x := range l {
		by.GCD(nil, nil, by, big.NewInt(int64(x)))
	}
	return by
}

// bigMultiple returns the least common multiple.
func bigMultiple(a, b *big.Int) *big.Int {
	product := new(big.Int).Mul(a, b)
	return product.Div(product, new(big.Int).GCD(nil, nil, a, b))
}

// P1.9: mixtures are as the exact numbers say.
func TestExactMix(t *testing.T) {
	next := noise(9)
	seen := map[api.Errno]int{}
	for i := range 3000 {
		limit := []int{1, 5, 60, 1000, 2000000, most / 8}[i%6]
		n, outcomes := 1+next(3), 1+next(3)
		cases, lists := noiseList(next, n, next(5)), [][]int{}
		for range n {
			lists = append(lists, noiseList(next, outcomes, limit))
		}
		l, e := odds.Mix(cases, lists)
		want, f := exactMix(cases, lists)
		if !slices.Equal(l, want) || e != f {
			t.Fatal(cases, lists, l, e, "want", want, f)
		}
		seen[e]++
	}
	if seen[api.OK] < 500 || seen[api.ErrOver] < 200 {
		t.Error("too few of one kind", seen)
	}
}

// P1.10: how far lists are apart, with the limits themselves and one beyond.
func TestApart(t *testing.T) {
	for i, c := range []struct {
		a, b []int
		want api.Chance
		e    api.Errno
	}{
		{[]int{1, 1}, []int{3, 1}, part(1, 4), api.OK},
		{[]int{3, 1}, []int{1, 1}, part(1, 4), api.OK},
		{[]int{2, 4}, []int{1, 2}, part(0, 1), api.OK},
		{[]int{1, 0}, []int{0, 9}, part(1, 1), api.OK},
		{[]int{1, 2, 3}, []int{3, 2, 1}, part(1, 3), api.OK},
		{[]int{1, 1, 1, 1}, []int{2, 0, 2, 0}, part(1, 2), api.OK},
		{[]int{9}, []int{4}, part(0, 1), api.OK},
		{[]int{most - 1, 1}, []int{1, 0}, part(1, most), api.OK},
		{[]int{most / 2, most / 2}, []int{1, most/2 - 1}, part(most/4-1, most/2), api.OK},
		{[]int{1, most/2 - 1}, []int{most / 2, most / 2}, part(most/4-1, most/2), api.OK},
		{[]int{1, 1}, []int{1, 1, 0}, part(0, 0), api.ErrArg},
		{[]int{1, most - 1}, []int{1, most - 2, 1}, part(0, 0), api.ErrArg},
		{[]int{1, most - 1}, []int{1, 1}, part(0, 0), api.ErrOver},
		{[]int{1, most - 1}, []int{1, most - 1}, part(0, 0), api.ErrOver},
		{[]int{1, most / 2}, []int{1, 1}, part(0, 0), api.ErrOver},
	} {
		if x, e := odds.Apart(c.a, c.b); x != c.want || e != c.e {
			t.Error(i, x, e)
		}
	}
}

// P1.10: the greatest difference, among all sets of outcomes.
func TestApartOfSets(t *testing.T) {
	next := noise(10)
	for range 400 {
		n := 1 + next(4)
		a, b := noiseList(next, n, 9), noiseList(next, n, 9)
		greatest := new(big.Rat)
		for set := range allLists(n, 2) {
			apart := new(big.Rat)
			for k, in := range set {
				if in == 1 {
					apart.Add(apart, new(big.Rat).Sub(share(a, k), share(b, k)))
				}
			}
			if apart.Abs(apart).Cmp(greatest) > 0 {
				greatest = apart
			}
		}
		x, e := odds.Apart(a, b)
		if e != api.OK || x != part(int(greatest.Num().Int64()), int(greatest.Denom().Int64())) {
			t.Fatal(a, b, x, e, "want", greatest)
		}
	}
}

// P1.7, P1.8: pairs and sums are counted one by one.
func TestCountedPairs(t *testing.T) {
	for _, a := range smallLists(3, 2) {
		for _, b := range smallLists(3, 2) {
			pairs, added := make([]int, len(a)*len(b)), make([]int, len(a)+len(b)-1)
			for i, x := range a {
				for j, y := range b {
					pairs[i*len(b)+j] = x * y
					added[i+j] += x * y
				}
			}
			if l, e := odds.Join(a, b); !slices.Equal(l, pairs) || e != api.OK {
				t.Fatal("Join", a, b, l, e)
			}
			if l, e := odds.Sum(a, b); !slices.Equal(l, added) || e != api.OK {
				t.Fatal("Sum", a, b, l, e)
			}
		}
	}
}

// P1.8: repeated outcomes are counted one by one.
func TestCountedRepeats(t *testing.T) {
	for _, w := range smallLists(3, 2) {
		for times := range 5 {
			want := make([]int, times*(len(w)-1)+1)
			for l := range allLists(times, len(w)) {
				sum, weight := 0, 1
				for _, k := range l {
					sum, weight = sum+k, weight*w[k]
				}
				want[sum] += weight
			}
			if l, e := odds.Repeat(w, times); !slices.Equal(l, want) || e != api.OK {
				t.Fatal(w, times, l, e, "want", want)
			}
		}
	}
}
