package odds_test

import (
	"slices"
	"testing"

	"astragal/api"
	"astragal/odds"
)

// P1.12: the chances of all outcomes add up to 1, and Pick deals to each as many values as its weight.
func TestAllOutcomes(t *testing.T) {
	for _, w := range smallLists(4, 3) {
		sum := part(0, 1)
		dealt := make([]int, len(w))
		for k := range w {
			sum = ok(odds.Either(sum, ok(odds.Of(w, []int{k}))))
		}
		if sum != part(1, 1) {
			t.Fatal(w, sum)
		}
		before := 0
		for value := range ok(odds.Total(w)) {
			k := ok(odds.Pick(w, value))
			if k < before {
				t.Fatal(w, value, k, "out of order")
			}
			before = k
			dealt[k]++
		}
		if !slices.Equal(dealt, w) {
			t.Fatal(w, dealt)
		}
	}
}

// P1.12: the chance of what is mapped is that of all that is mapped to it.
func TestMappedChance(t *testing.T) {
	for _, w := range smallLists(3, 2) {
		for n := 1; n <= 4; n++ {
			for to := range allLists(len(w), n) {
				mapped := ok(odds.Map(w, to, n))
				for j := range n {
					var from []int
					for k := range to {
						if to[k] == j {
							from = append(from, k)
						}
					}
					x, y := ok(odds.Of(mapped, []int{j})), ok(odds.Of(w, from))
					if x != y {
						t.Fatal(w, to, n, j, x, y)
					}
				}
			}
		}
	}
}

// P1.12: the chance of a pair is the product, and what is given keeps its chances to each other.
func TestPairChance(t *testing.T) {
	lists := smallLists(3, 2)
	for _, a := range lists {
		for _, b := range lists {
			pairs := ok(odds.Join(a, b))
			for i := range a {
				for j := range b {
					x := ok(odds.Of(pairs, []int{i*len(b) + j}))
					y := ok(odds.Both(ok(odds.Of(a, []int{i})), ok(odds.Of(b, []int{j}))))
					if x != y {
						t.Fatal(a, b, i, j, x, y)
					}
				}
			}
		}
	}
}

// P1.12: the chances of all cases, each times that of the outcome in it, add up to that of the mixture.
func TestMixedChance(t *testing.T) {
	next := noise(12)
	for range 2000 {
		n, outcomes := 1+next(3), 1+next(3)
		cases, lists := noiseList(next, n, 4), [][]int{}
		for range n {
			lists = append(lists, noiseList(next, outcomes, 6))
		}
		mixed := ok(odds.Mix(cases, lists))
		if !slices.Equal(mixed, ok(odds.Lowest(mixed))) {
			t.Fatal(cases, lists, mixed, "not in lowest terms")
		}
		for k := range outcomes {
			sum := part(0, 1)
			for c, l := range lists {
				both := ok(odds.Both(ok(odds.Of(cases, []int{c})), ok(odds.Of(l, []int{k}))))
				sum = ok(odds.Either(sum, both))
			}
			if x := ok(odds.Of(mixed, []int{k})); x != sum {
				t.Fatal(cases, lists, k, x, sum)
			}
		}
	}
}

// P1.14: Sum is the same both ways round.
func TestSumBothWays(t *testing.T) {
	lists := append(smallLists(3, 2), []int{5, 0, 0, 7, 2}, []int{most / 100, 3}, filled(50, 1))
	for _, a := range lists {
		for _, b := range lists {
			l, e := odds.Sum(a, b)
			r, f := odds.Sum(b, a)
			if !slices.Equal(l, r) || e != f {
				t.Fatal(a, b, l, r, e, f)
			}
		}
	}
}

// P1.14: some times and then others are all of these times.
func TestRepeatAdds(t *testing.T) {
	for _, w := range append(smallLists(3, 2), []int{1, 0, 0, 0, 5}, []int{9}) {
		for i := range 6 {
			for j := range 6 {
				l := ok(odds.Sum(ok(odds.Repeat(w, i)), ok(odds.Repeat(w, j))))
				if !slices.Equal(l, ok(odds.Repeat(w, i+j))) {
					t.Fatal(w, i, j, l)
				}
			}
		}
	}
}

// P1.15: Apart is 0 just for lists that are the same, the same both ways round, never greater than over a third list.
func TestApartIsDistance(t *testing.T) {
	for n := 1; n <= 3; n++ {
		var lists [][]int
		for _, l := range smallLists(3, 2) {
			if len(l) == n {
				lists = append(lists, l)
			}
		}
		far := make([][]api.Chance, len(lists))
		for i, a := range lists {
			for _, b := range lists {
				far[i] = append(far[i], ok(odds.Apart(a, b)))
			}
		}
		for i, a := range lists {
			for j, b := range lists {
				if far[i][j] != far[j][i] || (far[i][j] == part(0, 1)) != ok(odds.Same(a, b)) {
					t.Fatal(a, b, far[i][j], far[j][i])
				}
				for k, c := range lists {
					over, e := odds.Either(far[i][k], far[k][j])
					if e == api.OK && ok(odds.Compare(far[i][j], over)) > 0 {
						t.Fatal(a, b, c, far[i][j], over)
					}
				}
			}
		}
	}
}

// P1.15: what is mapped is no farther apart.
func TestMappedApart(t *testing.T) {
	next := noise(15)
	for range 3000 {
		n := 1 + next(4)
		a, b := noiseList(next, n, 8), noiseList(next, n, 8)
		m := 1 + next(3)
		to := make([]int, n)
		for k := range to {
			to[k] = next(m - 1)
		}
		x := ok(odds.Apart(a, b))
		y := ok(odds.Apart(ok(odds.Map(a, to, m)), ok(odds.Map(b, to, m))))
		if ok(odds.Compare(y, x)) > 0 {
			t.Fatal(a, b, to, x, y)
		}
	}
}
