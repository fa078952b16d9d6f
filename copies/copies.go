// Package copies makes new memory of what was handed in, for the caller of a layer to keep.
package copies

import (
	"slices"

	"weighhouse/api"
)

// Rows copies how many pieces lie in each bin.
func Rows(on [][]int) [][]int {
	rows := make([][]int, len(on))
	for bin, row := range on {
		rows[bin] = slices.Clone(row)
	}
	return rows
}

// State copies a state with all of its lists.
func State(s api.State) api.State {
	return api.State{
		On:     Rows(s.On),
		Orders: orders(s.Orders),
		Holds:  slices.Clone(s.Holds),
		Moves:  slices.Clone(s.Moves),
		In:     slices.Clone(s.In),
		Out:    slices.Clone(s.Out),
		Fixed:  slices.Clone(s.Fixed),
	}
}

func orders(l []api.Order) []api.Order {
	after := slices.Clone(l)
	for i, o := range l {
		after[i].Lines = slices.Clone(o.Lines)
	}
	return after
}
