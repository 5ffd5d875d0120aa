package grids

import (
	"slices"

	"gridwright/api"
)

// isGrid compares a grid with the valid one that has the same holes: there is at most one.
func isGrid(g api.Grid) bool {
	valid, ok := gridWith(g.Shape, g.W, g.H, g.Holes)
	return ok && slices.Equal(g.Cells, valid.Cells)
}

// gridWith returns the valid grid that has these holes, if there is one.
func gridWith(shape, w, h int, holes []int) (g api.Grid, ok bool) {
	if !isShape(shape) || !isSide(w) || !isSide(h) {
		return api.Grid{}, false
	}
	cells, ok := others(holes, w*h)
	if !ok || len(cells) == 0 {
		return api.Grid{}, false
	}
	return api.Grid{Shape: shape, W: w, H: h, Holes: slices.Clone(holes), Cells: cells}, true
}

func isShape(n int) bool { return n == api.SquareG || n == api.HexG }

func isSide(n int) bool { return 1 <= n && n <= api.MaxSide }

// others returns the positions that are not holes, if the holes are a strictly increasing list of positions.
func others(holes []int, positions int) (cells []int, ok bool) {
	next := 0
	for pos := range positions {
		if next < len(holes) && holes[next] == pos {
			next++
		} else {
			cells = append(cells, pos)
		}
	}
	// A hole that is not a position, or not greater than the one before it, was never reached, and no hole after it.
	return cells, next == len(holes)
}
