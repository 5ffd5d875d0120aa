package grids

import "gridwright/api"

// mostLists is how many lists a declared family can have.
const mostLists = 64

// regions returns lists of positions as lists of cells, if they can be the lists of a declared family.
func regions(g api.Grid, lists [][]int) (l [][]int, ok bool) {
	if len(lists) > mostLists {
		return nil, false
	}
	for _, positions := range lists {
		cells, ok := region(g, positions)
		if !ok {
			return nil, false
		}
		l = append(l, cells)
	}
	return l, true
}

// region returns a list of positions as a list of cells, if it has any, and none twice.
func region(g api.Grid, positions []int) (cells []int, ok bool) {
	var in [api.MaxCells]bool
	for _, pos := range positions {
		cell, ok := cellAt(g, pos)
		if !ok || in[cell] {
			return nil, false
		}
		in[cell] = true
		cells = append(cells, cell)
	}
	return cells, len(cells) > 0
}
