package grids

import "gridwright/api"

// neighbors lists the neighbors of each cell.
func neighbors(g api.Grid) [][]int {
	l := make([][]int, 0, len(g.Cells))
	for _, p := range cellsOf(g) {
		l = append(l, neighborsOf(g, p))
	}
	return l
}

// neighborsOf lists the neighbors of the cell with some coordinates.
func neighborsOf(g api.Grid, p pair) (l []int) {
	for _, d := range directions(g.Shape) {
		if cell, ok := cellWith(g, pair{p.q + d.q, p.r + d.r}); ok {
			l = append(l, cell)
		}
	}
	return l
}

// directions are how neighbors can differ from a cell: from the row above to the row below, and from left to right,
// because neighbors are listed in increasing order.
func directions(shape int) []pair {
	if shape == api.HexG {
		hex := [6]pair{{0, -1}, {1, -1}, {-1, 0}, {1, 0}, {-1, 1}, {0, 1}}
		return hex[:]
	}
	square := [4]pair{{0, -1}, {-1, 0}, {1, 0}, {0, 1}}
	return square[:]
}
