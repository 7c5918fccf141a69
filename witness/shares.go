package witness

import (
	"slices"

	"astragal/api"
	"astragal/whole"
)

// Split returns shares of a value: some that are given, and one more.
func Split(value, below int, shares []int) ([]int, api.Errno) {
	if !isBelow(below) || !among(value, 0, below-1) {
		return nil, api.ErrRange
	}
	given, e := Combine(below, shares)
	if e != api.OK {
		return nil, e
	}
	missing := (value - given + below) % below
	return slices.Concat(shares, []int{missing}), api.OK
}

// Combine returns the value of shares.
func Combine(below int, shares []int) (int, api.Errno) {
	switch {
	case !isBelow(below):
		return 0, api.ErrRange
	case len(shares) > api.MaxWitnesses:
		return 0, api.ErrLong
	case slices.ContainsFunc(shares, whole.Outside(0, below-1)):
		return 0, api.ErrArg
	}
	value := 0
	for _, share := range shares {
		value = (value + share) % below
	}
	return value, api.OK
}
