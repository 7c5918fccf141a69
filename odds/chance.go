package odds

import (
	"slices"

	"astragal/api"
	"astragal/whole"
)

// Compare compares two chances.
func Compare(a, b api.Chance) (int, api.Errno) {
	if e := checkChances(a, b); e != api.OK {
		return 0, e
	}
	return wideProduct(a.Num, b.Den).compare(wideProduct(b.Num, a.Den)), api.OK
}

// Both returns the product of two chances.
func Both(a, b api.Chance) (api.Chance, api.Errno) {
	if e := checkChances(a, b); e != api.OK {
		return api.Chance{}, e
	}
	// Shortened ahead of the product, whose Den then is the final one.
	x, y := fraction(a.Num, b.Den), fraction(b.Num, a.Den)
	den, e := whole.Product(x.Den, y.Den, api.ErrOver)
	if e != api.OK {
		return api.Chance{}, e
	}
	return api.Chance{Num: x.Num * y.Num, Den: den}, api.OK
}

// Not returns 1 less a chance.
func Not(a api.Chance) (api.Chance, api.Errno) {
	if e := checkChances(a); e != api.OK {
		return api.Chance{}, e
	}
	return api.Chance{Num: a.Den - a.Num, Den: a.Den}, api.OK
}

// Either returns the sum of two chances.
func Either(a, b api.Chance) (api.Chance, api.Errno) {
	if e := checkChances(a, b); e != api.OK {
		return api.Chance{}, e
	}
	common := whole.Divisor(a.Den, b.Den)
	num := wideProduct(a.Num, b.Den/common).plus(wideProduct(b.Num, a.Den/common))
	if num.compare(wideProduct(a.Den, b.Den/common)) > 0 {
		return api.Chance{}, api.ErrRange
	}
	// Both chances are in lowest terms: what divides num and the common Den divides common, too.
	by := whole.Divisor(common, num.modulo(common))
	den, e := whole.Product(a.Den/common, b.Den/by, api.ErrOver)
	if e != api.OK {
		return api.Chance{}, e
	}
	return api.Chance{Num: num.divided(by), Den: den}, api.OK
}

// checkChances returns ErrArg unless all chances are valid.
func checkChances(chances ...api.Chance) api.Errno {
	wrong := func(c api.Chance) bool {
		return whole.Outside(1, api.MaxNumber)(c.Den) || whole.Outside(0, c.Den)(c.Num) || whole.Divisor(c.Num, c.Den) > 1
	}
	if slices.ContainsFunc(chances, wrong) {
		return api.ErrArg
	}
	return api.OK
}

// fraction returns num / den in lowest terms.
func fraction(num, den int) api.Chance {
	by := whole.Divisor(num, den)
	return api.Chance{Num: num / by, Den: den / by}
}
