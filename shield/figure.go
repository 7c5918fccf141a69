// Package shield derives geomantic charts, and finds wrong marks in copies of them: see shared/doc/03-shield.md.
package shield

import (
	"slices"

	"astragal/api"
	"astragal/whole"
)

const lines = 4 // of a figure

var names = [...]string{
	api.Populus:       "populus",
	api.Laetitia:      "laetitia",
	api.Rubeus:        "rubeus",
	api.FortunaMinor:  "fortuna minor",
	api.Albus:         "albus",
	api.Amissio:       "amissio",
	api.Conjunctio:    "conjunctio",
	api.CaudaDraconis: "cauda draconis",
	api.Tristitia:     "tristitia",
	api.Carcer:        "carcer",
	api.Acquisitio:    "acquisitio",
	api.Puer:          "puer",
	api.FortunaMajor:  "fortuna major",
	api.Puella:        "puella",
	api.CaputDraconis: "caput draconis",
	api.Via:           "via",
}

// Check returns the error of a figure.
func Check(f api.Figure) api.Errno { return check(f) }

// Name returns the name of a figure.
func Name(f api.Figure) (string, api.Errno) {
	if e := check(f); e != api.OK {
		return "", e
	}
	return names[f], api.OK
}

// Parse returns the figure with a name.
func Parse(s string) (api.Figure, api.Errno) {
	for f, name := range names {
		if name == s {
			return api.Figure(f), api.OK
		}
	}
	return 0, api.ErrForm
}

// Marks returns the marks of the lines of a figure.
func Marks(f api.Figure) ([4]int, api.Errno) {
	if e := check(f); e != api.OK {
		return [4]int{}, e
	}
	marks := [4]int{}
	for line := range lines {
		marks[line] = 2
		if single(f, line) {
			marks[line] = 1
		}
	}
	return marks, api.OK
}

// Of returns the figure with some marks.
func Of(marks [4]int) (api.Figure, api.Errno) {
	if slices.ContainsFunc(marks[:], whole.Outside(1, 2)) {
		return 0, api.ErrArg
	}
	return figure(func(line int) bool { return marks[line] == 1 }), api.OK
}

// Sum returns the sum of two figures.
func Sum(a, b api.Figure) (api.Figure, api.Errno) {
	if e := check(a, b); e != api.OK {
		return 0, e
	}
	return sum(a, b), api.OK
}

// Turned returns a figure upside down.
func Turned(f api.Figure) (api.Figure, api.Errno) {
	if e := check(f); e != api.OK {
		return 0, e
	}
	return figure(func(line int) bool { return single(f, lines-1-line) }), api.OK
}

// Opposite returns the figure with one mark for two, and two for one.
func Opposite(f api.Figure) (api.Figure, api.Errno) {
	if e := check(f); e != api.OK {
		return 0, e
	}
	return figure(func(line int) bool { return !single(f, line) }), api.OK
}

// check returns ErrArg unless all of these are figures.
func check(figures ...api.Figure) api.Errno {
	if slices.ContainsFunc(figures, whole.Outside(api.Populus, api.Via)) {
		return api.ErrArg
	}
	return api.OK
}

// single reports whether a line of a figure has one mark.
func single(f api.Figure, line int) bool { return f>>line&1 == 1 }

// figure returns the figure whose lines have one mark where a condition holds.
func figure(one func(line int) bool) api.Figure {
	f := api.Populus
	for line := range lines {
		if one(line) {
			f |= 1 << line
		}
	}
	return f
}

// sum needs no look at each line: bits that differ are lines with one mark.
func sum(a, b api.Figure) api.Figure { return a ^ b }
