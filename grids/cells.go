package grids

import (
	"iter"
	"slices"

	"gridwright/api"
)

// A pair is the coordinates of a cell, or the difference of two:
// the column and the row in a square grid, the axial coordinates in a hexagonal one.
type pair struct{ q, r int }

// shift is how much the column exceeds q in a row. In a square grid, q is the column.
func shift(g api.Grid, row int) int {
	if g.Shape == api.HexG {
		return row / 2
	}
	return 0
}

// cellsOf yields the cells of a grid, in increasing order, with their coordinates.
func cellsOf(g api.Grid) iter.Seq2[int, pair] {
	return func(yield func(int, pair) bool) {
		for cell, pos := range g.Cells {
			column, row := pos%g.W, pos/g.W
			if !yield(cell, pair{column - shift(g, row), row}) {
				return
			}
		}
	}
}

// cellAt finds the cell at a position.
func cellAt(g api.Grid, pos int) (cell int, ok bool) {
	cell, ok = slices.BinarySearch(g.Cells, pos)
	if !ok {
		return 0, false
	}
	return cell, true
}

// cellWith finds the cell with some coordinates, in a row of the grid or next to one.
// The positions that a row above or below the grid would have are not cells, but a column beside it would be taken
// for one of another row.
func cellWith(g api.Grid, p pair) (cell int, ok bool) {
	column := p.q + shift(g, p.r)
	if column < 0 || column >= g.W {
		return 0, false
	}
	return cellAt(g, p.r*g.W+column)
}
