package habit

import (
	"slices"

	"astragal/api"
)

// Compare compares the chances of a register by two models.
func Compare(a, b api.Model, l []int) (int, api.Errno) {
	if e := check(l, a, b); e != api.OK {
		return 0, e
	}
	return productOf(a, l).compare(productOf(b, l)), api.OK
}

// Rank returns the numbers of models, the one by which a register has the greatest chance first.
func Rank(models []api.Model, l []int) ([]int, api.Errno) {
	if len(models) > api.MaxModels {
		return nil, api.ErrLong
	}
	if e := check(l, models...); e != api.OK {
		return nil, e
	}
	ranks := make([]int, len(models))
	products := make([]product, len(models))
	for number, m := range models {
		ranks[number] = number
		products[number] = productOf(m, l)
	}
	slices.SortStableFunc(ranks, func(i, j int) int { return products[j].compare(products[i]) })
	return ranks, api.OK
}

// Belief returns the chance that the first of two models is true, after a register.
func Belief(before api.Chance, a, b api.Model, l []int) (api.Chance, api.Errno) {
	if e := checkBelief(before); e != api.OK {
		return api.Chance{}, e
	}
	if e := check(l, a, b); e != api.OK {
		return api.Chance{}, e
	}
	x, byA, byB := before, chances(a, l), chances(b, l)
	for k := range l {
		var e api.Errno
		if x, e = believed(x, byA[k], byB[k]); e != api.OK {
			return api.Chance{}, e
		}
	}
	return x, api.OK
}

// believed returns what the belief x becomes with a cast that has the chances p and q by the two models.
func believed(x, p, q api.Chance) (api.Chance, api.Errno) {
	// No overflow: x.Den is at most MaxBelief, and the others are at most sums of rows.
	yes, no := x.Num*p.Num*q.Den, (x.Den-x.Num)*q.Num*p.Den
	if yes+no == 0 {
		return api.Chance{}, api.ErrNone
	}
	y := fraction(yes, yes+no)
	if y.Den > api.MaxBelief {
		return api.Chance{}, api.ErrOver
	}
	return y, api.OK
}

// Change returns behind how many casts a change from one model to another one explains a register best.
func Change(a, b api.Model, l []int) (int, api.Errno) {
	if e := check(l, a, b); e != api.OK {
		return 0, e
	}
	at, best, first := 0, productOf(b, l), one()
	for k, c := range chances(a, l) {
		first = first.then(c)
		if p := first.times(productOf(b, l[k+1:])); p.compare(best) > 0 {
			at, best = k+1, p
		}
	}
	if best.isZero() {
		return 0, api.ErrNone
	}
	return at, api.OK
}
