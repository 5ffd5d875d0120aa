package grids

import (
	"slices"

	"gridwright/api"
)

// familyOf returns the lists of a family, if there is one with this number.
func familyOf(g api.Grid, family int) (l [][]int, ok bool) {
	switch family {
	case api.CellsF:
		return singles(g), true
	case api.RowsF:
		return rows(g), true
	case api.ColumnsF:
		return columns(g), true
	case api.DiagonalsF:
		return diagonals(g), true
	case api.AroundF:
		return neighbors(g), true
	case api.NearF:
		return near(g), true
	case api.PairsF:
		return pairs(g), true
	case api.AllF:
		return [][]int{all(g)}, true
	}
	return nil, false
}

func all(g api.Grid) (l []int) {
	for cell := range cellsOf(g) {
		l = append(l, cell)
	}
	return l
}

func singles(g api.Grid) (l [][]int) {
	for cell := range cellsOf(g) {
		l = append(l, []int{cell})
	}
	return l
}

// near lists each cell with its neighbors.
func near(g api.Grid) (l [][]int) {
	for cell, p := range cellsOf(g) {
		here := append(neighborsOf(g, p), cell)
		slices.Sort(here)
		l = append(l, here)
	}
	return l
}

// pairs lists each pair of neighbors once, at the smaller one.
func pairs(g api.Grid) (l [][]int) {
	for cell, p := range cellsOf(g) {
		for _, other := range neighborsOf(g, p) {
			if cell < other {
				l = append(l, []int{cell, other})
			}
		}
	}
	return l
}
