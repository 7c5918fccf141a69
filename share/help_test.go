package share_test

import (
	"iter"
	"math"
	"reflect"
	"slices"

	"astragal/api"
)

// set returns the set of some persons or offices.
func set(l ...int) int {
	s := 0
	for _, k := range l {
		s |= 1 << k
	}
	return s
}

// office returns an office with so many seats that some persons can have.
func office(seats int, can ...int) api.ShareOffice {
	return api.ShareOffice{Seats: seats, Can: set(can...)}
}

// group returns a group of persons with a quota.
func group(most int, members ...int) api.ShareGroup {
	return api.ShareGroup{Members: set(members...), Most: most}
}

// three is the drawing of the chapter's first example, without groups or with some.
func three(groups ...api.ShareGroup) api.ShareDraw {
	return api.ShareDraw{Limits: filled(3, 1), Offices: []api.ShareOffice{office(1, 0, 1, 2), office(1, 0, 1, 2)}, Groups: groups}
}

// great is the drawing with the most assignments.
func great() api.ShareDraw {
	return api.ShareDraw{Limits: filled(8, 5), Offices: slices.Repeat([]api.ShareOffice{{Seats: 3, Can: 255}}, 5)}
}

// size is how great a drawing that follows no rule can be, and how many persons it has at least.
type size struct{ least, persons, offices, seats, groups int }

// few is small enough to look at every list of persons for every office.
func few() size { return size{1, 4, 3, 2, 2} }

// noiseDraw returns a valid drawing that follows no rule.
func noiseDraw(next func(int) int, n size) api.ShareDraw {
	persons := n.least + next(n.persons-n.least)
	d := api.ShareDraw{}
	for range persons {
		d.Limits = append(d.Limits, []int{0, 1, 2, 2, 3, 4, 5}[next(6)])
	}
	for range 1 + next(n.offices-1) {
		can := 1<<persons - 1
		if next(2) == 0 {
			can = next(can)
		}
		d.Offices = append(d.Offices, api.ShareOffice{Seats: 1 + next(n.seats-1), Can: can})
	}
	free := 1<<persons - 1
	for range next(n.groups) {
		g := api.ShareGroup{Members: next(1<<persons-1) & free, Most: min(15, next(4*len(d.Offices)))}
		free &^= g.Members
		d.Groups = append(d.Groups, g)
	}
	return d
}

// obeys returns the first rule that an assignment breaks, and where, in the document's words.
func obeys(d api.ShareDraw, a [][]int) (api.ShareRule, int) {
	for k, l := range a {
		if len(l) != d.Offices[k].Seats || !slices.IsSorted(l) || len(slices.Compact(slices.Clone(l))) != len(l) {
			return api.ShareSeats, k
		}
	}
	for k, l := range a {
		for _, person := range l {
			if d.Offices[k].Can&(1<<person) == 0 {
				return api.ShareCan, k
			}
		}
	}
	lists := func(person int) int {
		n := 0
		for _, l := range a {
			if slices.Contains(l, person) {
				n++
			}
		}
		return n
	}
	for person, limit := range d.Limits {
		if lists(person) > limit {
			return api.ShareLimit, person
		}
	}
	for k, g := range d.Groups {
		n := 0
		for person := range d.Limits {
			if g.Members&(1<<person) != 0 {
				n += lists(person)
			}
		}
		if n > g.Most {
			return api.ShareQuota, k
		}
	}
	return 0, 0
}

// ascending yields all lists of numbers below n in strictly ascending order, in ascending order.
func ascending(n int) iter.Seq[[]int] {
	return func(yield func([]int) bool) {
		var l [][]int
		for s := range 1 << n {
			var own []int
			for k := range n {
				if s&(1<<k) != 0 {
					own = append(own, k)
				}
			}
			l = append(l, own)
		}
		slices.SortFunc(l, slices.Compare)
		for _, own := range l {
			if !yield(own) {
				return
			}
		}
	}
}

// drawings returns all lists of so many numbers below n in strictly ascending order, in ascending order.
func drawings(n, length int) [][]int {
	var all [][]int
	for l := range ascending(n) {
		if len(l) == length {
			all = append(all, l)
		}
	}
	return all
}

// assignments returns all assignments of a small drawing that obey all rules, in ascending order.
func assignments(d api.ShareDraw) [][][]int {
	all := [][][]int{nil}
	for range d.Offices {
		var longer [][][]int
		for _, a := range all {
			for l := range ascending(len(d.Limits)) {
				longer = append(longer, append(slices.Clone(a), l))
			}
		}
		all = longer
	}
	return slices.DeleteFunc(all, func(a [][]int) bool {
		rule, _ := obeys(d, a)
		return rule != 0
	})
}

// before compares two assignments in the document's words.
func before(a, b [][]int) int {
	for k := range a {
		if c := slices.Compare(a[k], b[k]); c != 0 {
			return c
		}
	}
	return 0
}

// counted returns how many assignments there are, person by person: each has some of the offices.
func counted(d api.ShareDraw) int {
	type at struct {
		person int
		left   [api.MaxOffices]int
		quotas [api.MaxGroups]int
	}
	known := map[at]int{}
	var count func(at) int
	count = func(p at) int {
		if p.person == len(d.Limits) {
			if p.left == [api.MaxOffices]int{} {
				return 1
			}
			return 0
		}
		if n, found := known[p]; found {
			return n
		}
		n := 0
		for own := range ascending(len(d.Offices)) {
			q, fits := p, len(own) <= d.Limits[p.person]
			for _, k := range own {
				q.left[k]--
				fits = fits && q.left[k] >= 0 && d.Offices[k].Can&(1<<p.person) != 0
			}
			for k, g := range d.Groups {
				if g.Members&(1<<p.person) != 0 {
					q.quotas[k] -= len(own)
					fits = fits && q.quotas[k] >= 0
				}
			}
			if q.person++; fits {
				n += count(q)
			}
		}
		known[p] = n
		return n
	}
	start := at{}
	for k, o := range d.Offices {
		start.left[k] = o.Seats
	}
	for k, g := range d.Groups {
		start.quotas[k] = g.Most
	}
	return count(start)
}

// copied returns an equal copy of lists.
func copied(lists [][]int) [][]int {
	lists = slices.Clone(lists)
	for k, l := range lists {
		lists[k] = slices.Clone(l)
	}
	return lists
}

// same reports whether lists are the same.
func same(a, b [][]int) bool { return slices.EqualFunc(a, b, slices.Equal) }

// filled returns so many equal numbers.
func filled(count, n int) []int { return slices.Repeat([]int{n}, count) }

// ok returns the result of a call that has no error.
func ok[T any](x T, e api.Errno) T {
	if e != api.OK {
		panic(e)
	}
	return x
}

// noise returns numbers from 0 to most that follow no simple rule, and the same ones for the same seed.
func noise(seed uint64) func(most int) int {
	return func(most int) int {
		seed = seed*6364136223846793005 + 1442695040888963407
		return int((seed >> 16) % uint64(most+1))
	}
}

// extremes are numbers that are too small or too great for everything.
func extremes() []int {
	return []int{math.MinInt, math.MinInt + 1, math.MinInt32, -1001, -1, 550731777, 1 << 32, 1 << 62, math.MaxInt - 1, math.MaxInt}
}

// zero reports whether all of these are zero values, or empty lists.
func zero(l ...any) bool {
	for _, x := range l {
		if v := reflect.ValueOf(x); !v.IsZero() && (v.Kind() != reflect.Slice || v.Len() > 0) {
			return false
		}
	}
	return true
}
