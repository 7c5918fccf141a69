package share

import (
	"maps"
	"slices"

	"astragal/api"
	"astragal/whole"
)

// Draw returns whom a machine chooses, and whom it leaves out.
func Draw(m api.ShareMachine, balls []bool) (chosen, left []int, e api.Errno) {
	if !validMachine(m) {
		return nil, nil, api.ErrArg
	}
	if len(balls) != rows(m) {
		return nil, nil, api.ErrForm
	}
	persons, at := tickets(m)
	for _, person := range persons {
		if row := at[person]; row >= len(balls) {
			left = append(left, person)
		} else if balls[row] {
			chosen = append(chosen, person)
		}
	}
	return chosen, left, api.OK
}

// Chosen returns the chances of being chosen by a machine.
func Chosen(m api.ShareMachine, white int) (persons []int, chances []api.Chance, e api.Errno) {
	if !validMachine(m) {
		return nil, nil, api.ErrArg
	}
	balls := rows(m)
	if !among(white, 0, balls) {
		return nil, nil, api.ErrRange
	}
	persons, at := tickets(m)
	for _, person := range persons {
		if at[person] < balls {
			by := whole.Divisor(white, balls)
			chances = append(chances, api.Chance{Num: white / by, Den: balls / by})
		} else {
			chances = append(chances, api.Chance{Num: 0, Den: 1})
		}
	}
	return persons, chances, api.OK
}

// rows returns how many rows a valid machine has.
func rows(m api.ShareMachine) int {
	n := api.MaxRows
	for _, column := range m.Columns {
		n = min(n, len(column))
	}
	return n
}

// tickets returns all persons with a ticket in a valid machine, in ascending order, and how far from the top their tickets are.
func tickets(m api.ShareMachine) (persons []int, at map[int]int) {
	at = map[int]int{}
	for _, column := range m.Columns {
		for k, person := range column {
			at[person] = k
		}
	}
	return slices.Sorted(maps.Keys(at)), at
}
