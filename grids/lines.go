package grids

import (
	"maps"
	"slices"

	"gridwright/api"
)

// A coordinate says on which of some parallel lines a cell lies.
type coordinate func(p pair) int

// along is the coordinate that counts q and r as often as it is given.
func along(q, r int) coordinate {
	return func(p pair) int { return q*p.q + r*p.r }
}

func rows(g api.Grid) [][]int { return inOrder(lines(g, along(0, 1))) }

func columns(g api.Grid) [][]int { return inOrder(lines(g, along(1, 0))) }

// diagonals are all lines of the third direction of a hexagonal grid, but at most two of a square one.
func diagonals(g api.Grid) (l [][]int) {
	rising := lines(g, along(1, 1))
	if g.Shape == api.HexG {
		return inOrder(rising)
	}
	if g.W != g.H {
		return nil
	}
	first, second := lines(g, along(1, -1))[0], rising[g.W-1]
	if len(first) > 0 {
		l = append(l, first)
	}
	if len(second) > 0 && !slices.Equal(first, second) {
		l = append(l, second)
	}
	return l
}

// lines collects the cells of each line, in increasing order: this is their order along every line.
func lines(g api.Grid, on coordinate) map[int][]int {
	m := map[int][]int{}
	for cell, p := range cellsOf(g) {
		m[on(p)] = append(m[on(p)], cell)
	}
	return m
}

// inOrder lists lines by their coordinates.
func inOrder(m map[int][]int) [][]int {
	l := make([][]int, 0, len(m))
	for _, line := range slices.Sorted(maps.Keys(m)) {
		l = append(l, m[line])
	}
	return l
}
