package grids_test

import (
	"slices"
	"testing"

	"gridwright/api"
	"gridwright/graphs"
	"gridwright/grids"
)

// everyGrid calls a function with grids of all sizes.
func everyGrid(check func(g api.Grid)) {
	for g := range smallGrids(8) {
		check(g)
	}
	for _, g := range largeGrids() {
		check(g)
	}
	r := source(6)
	for range 200 {
		check(someGrid(r))
	}
}

// P13.4: neighbors are a graph.
func TestNeighborsAreGraph(t *testing.T) {
	everyGrid(func(g api.Grid) {
		l := neighbors(t, g)
		if e := graphs.Check(l); e != api.OK || len(l) != len(g.Cells) {
			t.Error(g, l, e)
		}
	})
}

// P13.4: each cell occurs exactly once in the rows, in the columns, and in the diagonals of a hexagonal grid.
func TestLinesHaveEachCellOnce(t *testing.T) {
	everyGrid(func(g api.Grid) {
		lines := []int{api.RowsF, api.ColumnsF}
		if g.Shape == api.HexG {
			lines = append(lines, api.DiagonalsF)
		}
		for _, number := range lines {
			times := make([]int, len(g.Cells))
			for _, l := range family(t, g, number) {
				if len(l) == 0 {
					t.Error(g, number)
				}
				for _, cell := range l {
					times[cell]++
				}
			}
			if slices.ContainsFunc(times, func(n int) bool { return n != 1 }) {
				t.Error(g, number, times)
			}
		}
	})
}

// P13.4: pairs are the edges of the graph.
func TestPairsAreEdges(t *testing.T) {
	everyGrid(func(g api.Grid) {
		var edges [][]int
		for cell, near := range neighbors(t, g) {
			for _, other := range near {
				if cell < other {
					edges = append(edges, []int{cell, other})
				}
			}
		}
		if l := family(t, g, api.PairsF); !same(l, edges) {
			t.Error(g, l, edges)
		}
	})
}

// exchanged returns a square grid with its columns and rows exchanged, and the names that its cells get.
func exchanged(t *testing.T, g api.Grid) (other api.Grid, names []int) {
	t.Helper()
	var holes []int
	for _, pos := range g.Holes {
		holes = append(holes, pos%g.W*g.H+pos/g.W)
	}
	slices.Sort(holes)
	other, e := grids.Make(g.Shape, g.H, g.W, holes)
	if e != api.OK {
		t.Fatal(g, e)
	}
	for _, pos := range g.Cells {
		cell, ok := grids.Cell(other, pos%g.W*g.H+pos/g.W)
		if !ok {
			t.Fatal(g, pos)
		}
		names = append(names, cell)
	}
	return other, names
}

// P13.4: if the columns and rows of a square grid are exchanged, its rows become columns, and its columns rows.
func TestExchangedRowsAreColumns(t *testing.T) {
	everyGrid(func(g api.Grid) {
		if g.Shape != api.SquareG {
			return
		}
		other, names := exchanged(t, g)
		for _, numbers := range [][2]int{{api.RowsF, api.ColumnsF}, {api.ColumnsF, api.RowsF}} {
			lines := family(t, g, numbers[0])
			for _, l := range lines {
				for i, cell := range l {
					l[i] = names[cell]
				}
			}
			if l := family(t, other, numbers[1]); !same(l, lines) {
				t.Error(g, numbers, l, lines)
			}
		}
	})
}

// R2: arguments and results that were returned stay as they were.
func TestPurity(t *testing.T) {
	r := source(7)
	var returned, copies [][]int
	keep := func(l ...[]int) {
		for _, x := range l {
			returned, copies = append(returned, x), append(copies, slices.Clone(x))
		}
	}
	for range 60 {
		model := someGrid(r)
		keep(model.Holes)
		g, _ := grids.Make(model.Shape, model.W, model.H, model.Holes)
		keep(g.Holes, g.Cells)
		lists := [][]int{{g.Cells[0]}, slices.Clone(g.Cells), {-1}}
		keep(lists...)
		for n := range lists {
			l, _ := grids.Regions(g, lists[:n+1])
			keep(l...)
		}
		grids.Check(g)
		grids.Cell(g, r.IntN(g.W*g.H))
		l, _ := grids.Neighbors(g)
		keep(l...)
		for number := range families {
			l, _ := grids.Family(g, number)
			keep(l...)
		}
		for i, l := range returned {
			if !slices.Equal(l, copies[i]) {
				t.Fatal(i, l, copies[i])
			}
		}
	}
}

// R3, R6: nil and empty lists of holes are the same, and equal calls return equal results, whatever lies behind the lists.
func TestEqualCalls(t *testing.T) {
	r := source(8)
	for range 60 {
		g := someGrid(r)
		other := g
		other.Holes = append(make([]int, 0, len(g.Holes)+r.IntN(3)), g.Holes...)
		other.Cells = append(make([]int, 0, len(g.Cells)+r.IntN(3)), g.Cells...)
		if e := grids.Check(other); e != api.OK {
			t.Error(g, e)
		}
		a, e := grids.Make(g.Shape, g.W, g.H, g.Holes)
		b, f := grids.Make(g.Shape, g.W, g.H, other.Holes)
		if e != api.OK || f != api.OK || !sameGrid(a, b) {
			t.Error(g, e, f)
		}
		for number := range families {
			first, second, third := family(t, g, number), family(t, other, number), family(t, g, number)
			if !same(first, second) || !same(first, third) {
				t.Error(g, number)
			}
		}
	}
}
