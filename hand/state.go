package hand

import (
	"iter"

	"astragal/api"
)

// state is what a course has come to. Courses that have come to equal states can go on in the same ways, to the same outcomes.
type state interface {
	// choices returns how many choices the next step has, 0 if the course is complete.
	choices(h api.Hand) int
	// branches yields, in the order of the choices of the next step, what they lead to, and how many of them, one after another, lead there.
	branches(h api.Hand) iter.Seq2[state, int]
	// open reports whether an outcome is, as far as is seen at once, still possible.
	open(h api.Hand, outcome int) bool
	// outcome returns the outcome of a complete course.
	outcome(h api.Hand) int
}

// start returns the state ahead of all choices.
func start(h api.Hand) state {
	switch h.Kind {
	case api.HandThrow:
		return thrown{left: h.Count}
	case api.HandMarks:
		return marks(0)
	case api.HandStalks:
		return stalks{left: h.Changes, count: h.Count}
	case api.HandDraw:
		return drawn{left: h.Count}
	}
	return cut(0)
}

// after returns the state after a choice, which the next step must have.
func after(h api.Hand, s state, choice int) state {
	for next, n := range s.branches(h) {
		if choice < n {
			return next
		}
		choice -= n
	}
	return s
}

// follow returns what the beginning of a course comes to; or the error ErrStep with the choice that can not be made, or ErrLong with the number of steps.
func follow(h api.Hand, course []int) (s state, at int, e api.Errno) {
	s = start(h)
	for k, choice := range course {
		n := s.choices(h)
		if n == 0 {
			return nil, k, api.ErrLong
		}
		if choice < 0 || choice >= n {
			return nil, k, api.ErrStep
		}
		s = after(h, s, choice)
	}
	return s, 0, api.OK
}
