package hand

import (
	"astragal/api"
	"astragal/whole"
)

// counter counts the courses of a hand that have an outcome, from any state on.
type counter struct {
	hand    api.Hand
	outcome int
	known   map[state]int
}

// counterOf returns the counter for an outcome of a hand, or the error of Courses.
func counterOf(h api.Hand, outcome int) (counter, api.Errno) {
	if e := check(h); e != api.OK {
		return counter{}, e
	}
	if whole.Outside(0, outcomes(h)-1)(outcome) {
		return counter{}, api.ErrRange
	}
	return counter{h, outcome, map[state]int{}}, countable(h)
}

// countable returns ErrFull if a valid hand has more than MaxNumber complete courses.
func countable(h api.Hand) api.Errno {
	// A single course tells it: all others have as many choices at each step; except for stalks, of which there are never so many courses.
	all := 1
	for s := start(h); s.choices(h) > 0; s = after(h, s, 0) {
		var e api.Errno
		if all, e = whole.Product(all, s.choices(h), api.ErrFull); e != api.OK {
			return e
		}
	}
	return api.OK
}

// from returns how many courses go on from a state to the outcome.
func (c counter) from(s state) (n int) {
	if !s.open(c.hand, c.outcome) {
		return 0
	}
	if s.choices(c.hand) == 0 {
		if s.outcome(c.hand) == c.outcome {
			return 1
		}
		return 0
	}
	if n, ok := c.known[s]; ok {
		return n
	}
	defer func() { c.known[s] = n }()
	for next, choices := range s.branches(c.hand) {
		n += choices * c.from(next)
	}
	return n
}

// nth returns the course with a number, which must be below that of all courses with the outcome.
func (c counter) nth(number int) []int {
	var course []int
	s := start(c.hand)
	for s.choices(c.hand) > 0 {
		first := 0 // choice of the branch
		for next, choices := range s.branches(c.hand) {
			each := c.from(next)
			if number < choices*each {
				course = append(course, first+number/each)
				number %= each
				s = next
				break
			}
			number -= choices * each
			first += choices
		}
	}
	return course
}

// rank returns how many courses with the outcome come before one of them.
func (c counter) rank(course []int) int {
	number := 0
	s := start(c.hand)
	for _, choice := range course {
		for next, choices := range s.branches(c.hand) {
			number += min(choice, choices) * c.from(next)
			if choice < choices {
				s = next
				break
			}
			choice -= choices
		}
	}
	return number
}
