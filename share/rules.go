package share

import (
	"slices"

	"astragal/api"
)

// broken returns the first rule that an assignment breaks, and where; 0 and 0 if it obeys all of them.
func broken(d api.ShareDraw, a [][]int) (api.ShareRule, int) {
	for rule := api.ShareSeats; rule <= api.ShareQuota; rule++ {
		if at := breaking(d, a, rule); at >= 0 {
			return rule, at
		}
	}
	return 0, 0
}

// breaking returns the first office, person or group with which an assignment breaks a rule, or -1.
func breaking(d api.ShareDraw, a [][]int, rule api.ShareRule) int {
	switch rule {
	case api.ShareSeats:
		return first(len(a), func(office int) bool {
			return len(a[office]) != d.Offices[office].Seats || !isAscending(a[office])
		})
	case api.ShareCan:
		return first(len(a), func(office int) bool {
			return seats(a[office:office+1], d.Offices[office].Can) < len(a[office])
		})
	case api.ShareLimit:
		return first(len(d.Limits), func(person int) bool {
			return seats(a, 1<<person) > d.Limits[person]
		})
	}
	return first(len(d.Groups), func(group int) bool {
		return seats(a, d.Groups[group].Members) > d.Groups[group].Most
	})
}

// seats returns how often persons of a set are in lists, all together.
func seats(a [][]int, persons int) int {
	n := 0
	for _, person := range slices.Concat(a...) {
		if has(persons, person) {
			n++
		}
	}
	return n
}
