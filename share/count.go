package share

import (
	"iter"
	"slices"

	"astragal/api"
)

// used is how many seats each person has and, behind all persons, how many each group has.
type used [api.MaxShare + api.MaxGroups]int

// place is where an assignment has come to: the office that is next, and what those before it use.
type place struct {
	used
	office int
}

// counter counts the assignments of a drawing.
type counter struct {
	api.ShareDraw
	most  used                     // what can be used
	later [api.MaxOffices + 1]used // what could be used from an office on, at most
	known map[place]int            // how many assignments go on from a place
}

// enter returns the counter of a drawing, or the error of the drawing.
func enter(d api.ShareDraw) (counter, api.Errno) {
	if e := Check(d); e != api.OK {
		return counter{}, e
	}
	c := counter{ShareDraw: d, known: map[place]int{}}
	copy(c.most[:], d.Limits)
	for g, group := range d.Groups {
		c.most[api.MaxShare+g] = group.Most
	}
	for k, office := range slices.Backward(d.Offices) {
		c.later[k] = c.later[k+1].with(members(office.Can), d.Groups)
	}
	return c, api.OK
}

// count returns how many assignments go on from a place.
func (c counter) count(p place) int {
	if p.office == len(c.Offices) {
		return 1
	}
	n, known := c.known[p]
	if known {
		return n
	}
	for _, behind := range c.lists(p) {
		n += c.count(behind)
	}
	c.known[p] = n
	return n
}

// numbered returns the assignment with a number, which there is.
func (c counter) numbered(number int) [][]int {
	a, p := make([][]int, len(c.Offices)), place{}
	for office := range a {
		for list, behind := range c.lists(p) {
			n := c.count(behind)
			if number < n {
				a[office], p = slices.Clone(list), behind
				break
			}
			number -= n
		}
	}
	return a
}

// number returns the number of an assignment that obeys all rules.
func (c counter) number(a [][]int) int {
	number, p := 0, place{}
	for _, own := range a {
		for list, behind := range c.lists(p) {
			if slices.Equal(list, own) {
				p = behind
				break
			}
			number += c.count(behind)
		}
	}
	return number
}

// lists yields what can be assigned to the office of a place, in ascending order, each list with the place behind it. A list is good until the next one is asked for.
func (c counter) lists(p place) iter.Seq2[[]int, place] {
	return func(yield func([]int, place) bool) {
		office := c.Offices[p.office]
		for list := range choices(members(office.Can), office.Seats) {
			u := p.with(list, c.Groups)
			if u.over(c.most) {
				continue
			}
			if !yield(list, place{u.raised(c.most, c.later[p.office+1]), p.office + 1}) {
				return
			}
		}
	}
}

// with returns what is used with a seat more for each of these persons.
func (u used) with(persons []int, groups []api.ShareGroup) used {
	for _, person := range persons {
		u[person]++
		for g, group := range groups {
			if has(group.Members, person) {
				u[api.MaxShare+g]++
			}
		}
	}
	return u
}

// over reports whether more is used than can be.
func (u used) over(most used) bool {
	return first(len(u), func(k int) bool { return u[k] > most[k] }) >= 0
}

// raised returns what is used, but where so little is used that nothing later can be too much, as much as still leaves room for all of that. So places from which the same can follow become equal, and are counted once.
func (u used) raised(most, later used) used {
	for k := range u {
		u[k] = max(u[k], most[k]-later[k])
	}
	return u
}
