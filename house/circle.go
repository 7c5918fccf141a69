package house

import (
	"iter"

	"astragal/api"
)

const houses = 12 // of a circle

// circle is houses, with all those in which each figure stands.
type circle struct {
	api.Houses
	stands map[api.Figure][]int
}

// enter returns the circle of houses, or the error of these and of those that are named.
func enter(h api.Houses, named ...int) (circle, api.Errno) {
	if e := Check(h); e != api.OK {
		return circle{}, e
	}
	if e := check(named...); e != api.OK {
		return circle{}, e
	}
	if len(named) == 2 && named[0] == named[1] {
		return circle{}, api.ErrTwice
	}
	return joined(h), api.OK
}

// joined returns the circle of houses that have figures.
func joined(h api.Houses) circle {
	c := circle{h, map[api.Figure][]int{}}
	for i, f := range h {
		c.stands[f] = append(c.stands[f], i+1)
	}
	return c
}

// figure returns the figure of a house.
func (c circle) figure(house int) api.Figure { return c.Houses[house-1] }

// apart returns by how many houses two houses are apart.
func apart(a, b int) int {
	way := max(a, b) - min(a, b)
	return min(way, houses-way)
}

// beside yields the two houses next to a house.
func beside(house int) iter.Seq[int] {
	return func(yield func(int) bool) {
		if yield((house+houses-2)%houses + 1) {
			yield(house%houses + 1)
		}
	}
}
