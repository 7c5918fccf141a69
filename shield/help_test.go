package shield_test

import (
	"math"
	"math/bits"

	"astragal/api"
)

// ok returns the result of a call that has no error.
func ok[T any](x T, e api.Errno) T {
	if e != api.OK {
		panic(e)
	}
	return x
}

// noise returns numbers from 0 to most that follow no simple rule, and the same ones for the same seed.
func noise(seed uint64) func(most int) int {
	return func(most int) int {
		seed = seed*6364136223846793005 + 1442695040888963407
		return int((seed >> 16) % uint64(most+1))
	}
}

// noFigures are numbers of no figure.
func noFigures() []api.Figure {
	return []api.Figure{math.MinInt, -16, -1, 16, 17, 31, 1 << 32, math.MaxInt}
}

// named has the names in the order of the figures.
func named() []string {
	return []string{"populus", "laetitia", "rubeus", "fortuna minor", "albus", "amissio", "conjunctio", "cauda draconis",
		"tristitia", "carcer", "acquisitio", "puer", "fortuna major", "puella", "caput draconis", "via"}
}

// drawn are the marks of the lines of sixteen figures.
type drawn [16][4]int

// marksOf returns the marks of a figure, as the document tells them.
func marksOf(f api.Figure) [4]int {
	l := [4]int{2, 2, 2, 2}
	for line, worth := range []api.Figure{1, 2, 4, 8} {
		if f/worth%2 == 1 {
			l[line] = 1
		}
	}
	return l
}

func drawnOf(s api.Shield) drawn {
	d := drawn{}
	for place, f := range s {
		d[place] = marksOf(f)
	}
	return d
}

func (d drawn) shield() api.Shield {
	s := api.Shield{}
	for place, marks := range d {
		for line, worth := range []api.Figure{1, 2, 4, 8} {
			if marks[line] == 1 {
				s[place] += worth
			}
		}
	}
	return s
}

// added counts the marks of two lines: two are left of an even number, one of an odd one.
func added(a, b [4]int) [4]int {
	sum := [4]int{}
	for line := range 4 {
		sum[line] = 2 - (a[line]+b[line])%2
	}
	return sum
}

// follows returns what follows at a place from what is drawn at the others.
func (d drawn) follows(place int) [4]int {
	switch place {
	case 4, 5, 6, 7:
		return [4]int{d[0][place-4], d[1][place-4], d[2][place-4], d[3][place-4]}
	case 8:
		return added(d[0], d[1])
	case 9:
		return added(d[2], d[3])
	case 10:
		return added(d[4], d[5])
	case 11:
		return added(d[6], d[7])
	case 12:
		return added(d[8], d[9])
	case 13:
		return added(d[10], d[11])
	case 14:
		return added(d[12], d[13])
	case 15:
		return added(d[14], d[0])
	}
	return d[place]
}

// chartOf returns the chart of mothers, drawn place by place.
func chartOf(m api.Mothers) api.Shield {
	d := drawnOf(api.Shield{m[0], m[1], m[2], m[3]})
	for place := range 16 {
		d[place] = d.follows(place)
	}
	return d.shield()
}

// allCharts returns all charts by the numbers of their mothers.
func allCharts() []api.Shield {
	var all []api.Shield
	for a := range 16 {
		for b := range 16 {
			for c := range 16 {
				for d := range 16 {
					all = append(all, chartOf(api.Mothers{api.Figure(a), api.Figure(b), api.Figure(c), api.Figure(d)}))
				}
			}
		}
	}
	return all
}

// apart returns in how many marks two charts or copies differ.
func apart(a, b api.Shield) int {
	n := 0
	for place := range 16 {
		n += bits.OnesCount(uint(a[place] ^ b[place]))
	}
	return n
}

// mended returns the repair of a copy, found by comparing it with all charts.
func mended(all []api.Shield, s api.Shield) api.Repair {
	at := make([][]int, 65)
	for number, chart := range all {
		at[apart(chart, s)] = append(at[apart(chart, s)], number)
	}
	for marks, numbers := range at {
		if len(numbers) > 0 {
			return api.Repair{Marks: marks, Charts: len(numbers), Shield: all[numbers[0]]}
		}
	}
	panic("no chart")
}

// noiseShield returns sixteen figures that follow no rule.
func noiseShield(next func(int) int) api.Shield {
	s := api.Shield{}
	for place := range s {
		s[place] = api.Figure(next(15))
	}
	return s
}

// changed returns a chart with some other marks, no line twice.
func changed(next func(int) int, s api.Shield, marks int) api.Shield {
	was := s
	for apart(was, s) < marks {
		place, line := next(15), next(3)
		if (was[place]^s[place])>>line&1 == 0 {
			s[place] ^= 1 << line
		}
	}
	return s
}

// every returns the sets of all figures at all places.
func every() [16]api.FigureSet {
	sets := [16]api.FigureSet{}
	for place := range sets {
		sets[place] = api.EveryFigure
	}
	return sets
}

// only returns the sets of all figures, but at one place.
func only(place int, set api.FigureSet) [16]api.FigureSet {
	sets := every()
	sets[place] = set
	return sets
}
