package grids_test

import (
	"slices"
	"testing"

	"gridwright/api"
	"gridwright/grids"
)

// P13.1: the examples of the chapter.
func TestMakeExamples(t *testing.T) {
	g, e := grids.Make(api.SquareG, 2, 2, []int{3})
	if e != api.OK || !sameGrid(g, api.Grid{Shape: 1, W: 2, H: 2, Holes: []int{3}, Cells: []int{0, 1, 2}}) {
		t.Error(g, e)
	}
	if cell, ok := grids.Cell(g, 3); cell != 0 || ok {
		t.Error(cell, ok)
	}
	if cell, ok := grids.Cell(g, 2); cell != 2 || !ok {
		t.Error(cell, ok)
	}
	for _, holes := range [][]int{nil, {}} {
		if g, e := grids.Make(api.SquareG, 0, 3, holes); !isZero(g) || e != api.ErrGrid {
			t.Error(g, e)
		}
	}
	if g, e := grids.Make(api.HexG, 1, 1, []int{0}); !isZero(g) || e != api.ErrGrid {
		t.Error(g, e)
	}
	g, e = grids.Make(api.HexG, 3, 2, []int{0, 4})
	if e != api.OK || !sameGrid(g, api.Grid{Shape: 2, W: 3, H: 2, Holes: []int{0, 4}, Cells: []int{1, 2, 3, 5}}) {
		t.Error(g, e)
	}
	for pos, want := range []int{-1, 0, 1, 2, -1, 3, -1} {
		if cell, ok := grids.Cell(g, pos); ok != (want >= 0) || cell != max(want, 0) {
			t.Error(pos, cell, ok)
		}
	}
}

// checkGrid compares Make, Check and Cell with what a valid grid is.
func checkGrid(t *testing.T, g api.Grid) {
	t.Helper()
	if made, e := grids.Make(g.Shape, g.W, g.H, g.Holes); e != api.OK || !sameGrid(made, g) {
		t.Error(g, made, e)
	}
	if e := grids.Check(g); e != api.OK {
		t.Error(g, e)
	}
	for pos := -g.W - 1; pos <= g.W*g.H+g.W; pos++ {
		want := max(slices.Index(g.Cells, pos), 0)
		if cell, ok := grids.Cell(g, pos); cell != want || ok != slices.Contains(g.Cells, pos) {
			t.Error(g, pos, cell, ok)
		}
	}
}

// P13.1: all grids with up to ten positions.
func TestMakeAllSmall(t *testing.T) {
	for g := range smallGrids(10) {
		checkGrid(t, g)
	}
}

// P13.1: grids of all sizes, without holes and with some.
func TestMakeAllSizes(t *testing.T) {
	r := source(2)
	for _, shape := range shapes {
		for w := 1; w <= mostSide; w++ {
			for h := 1; h <= mostSide; h++ {
				checkGrid(t, gridWith(shape, w, h))
				checkGrid(t, gridWith(shape, w, h, someHoles(r, w, h)...))
			}
		}
	}
	for _, g := range largeGrids() {
		checkGrid(t, g)
	}
}

// checkMake compares Make with its definition, and Check with the grid that Make is asked for.
func checkMake(t *testing.T, shape, w, h int, holes []int) {
	t.Helper()
	g, e := grids.Make(shape, w, h, holes)
	want := api.Grid{Shape: shape, W: w, H: h, Holes: holes}
	if 0 < w && w < 100 && 0 < h && h < 100 {
		want = gridWith(shape, w, h, holes...)
	}
	switch {
	case isValid(want) && (e != api.OK || !sameGrid(g, want)), !isValid(want) && (e != api.ErrGrid || !isZero(g)):
		t.Error(shape, w, h, len(holes), e)
	}
	if valid := grids.Check(want) == api.OK; valid != isValid(want) {
		t.Error(shape, w, h, len(holes), valid)
	}
}

// P13.1: all shapes and sides, with some more on both ends.
func TestMakeShapesAndSides(t *testing.T) {
	for shape := -1; shape <= 4; shape++ {
		for w := -2; w <= 20; w++ {
			for h := -2; h <= 20; h++ {
				checkMake(t, shape, w, h, nil)
				checkMake(t, shape, w, h, []int{0})
			}
		}
	}
	for _, x := range oddNumbers {
		for _, y := range append([]int{0, 1, 2, 16}, oddNumbers...) {
			for _, holes := range [][]int{nil, {0}, {x}} {
				checkMake(t, x, y, 1, holes)
				checkMake(t, api.SquareG, x, y, holes)
				checkMake(t, api.HexG, y, x, holes)
			}
		}
	}
}

// listsOf returns all lists of at most a length with elements from -1 to greatest.
func listsOf(length, greatest int) [][]int {
	l := [][]int{nil}
	for first := 0; length > 0; length-- {
		last := len(l)
		for ; first < last; first++ {
			for x := -1; x <= greatest; x++ {
				l = append(l, append(slices.Clone(l[first]), x))
			}
		}
	}
	return l
}

// P13.1: all short lists of holes.
func TestMakeHoles(t *testing.T) {
	for _, side := range [][2]int{{1, 1}, {2, 1}, {1, 2}, {3, 1}, {2, 2}} {
		w, h := side[0], side[1]
		for _, holes := range listsOf(4, w*h+1) {
			checkMake(t, api.SquareG, w, h, holes)
			checkMake(t, api.HexG, w, h, holes)
		}
	}
	all := gridWith(api.SquareG, 16, 16).Cells
	for _, holes := range [][]int{all, all[1:], all[:255], append(slices.Clone(all[1:]), 256), append([]int{-1}, all[1:]...), slices.Repeat([]int{7}, 1000)} {
		checkMake(t, api.SquareG, 16, 16, holes)
	}
	for _, x := range oddNumbers {
		checkMake(t, api.HexG, 16, 16, []int{x})
		checkMake(t, api.HexG, 16, 16, []int{0, 255, x})
		checkMake(t, api.HexG, 16, 16, []int{x, 3})
		checkMake(t, api.HexG, 16, 16, []int{3, x, 4})
	}
}

// P13.1: all short lists of holes and cells.
func TestCheckLists(t *testing.T) {
	for _, side := range [][2]int{{1, 1}, {2, 1}, {1, 2}, {3, 1}} {
		n := side[0] * side[1]
		lists := listsOf(3, n)
		for _, holes := range lists {
			for _, cells := range lists {
				g := api.Grid{Shape: api.HexG, W: side[0], H: side[1], Holes: holes, Cells: cells}
				if valid := grids.Check(g) == api.OK; valid != isValid(g) {
					t.Error(g, valid)
				}
			}
		}
	}
}

// P13.1: large grids with one change are not valid.
func TestCheckChanged(t *testing.T) {
	r := source(3)
	for range 2000 {
		g := someGrid(r)
		i := r.IntN(len(g.Cells))
		changed := []api.Grid{g, g, g, g, g, g}
		changed[0].Cells = slices.Delete(slices.Clone(g.Cells), i, i+1)
		changed[1].Cells = slices.Insert(slices.Clone(g.Cells), i, g.Cells[i])
		changed[2].Cells = append(slices.Clone(g.Cells), g.W*g.H)
		changed[3].Cells = slices.Clone(g.Cells)
		changed[3].Cells[i] += 1 - 2*r.IntN(2)
		changed[4].Holes = append(slices.Clone(g.Holes), g.Cells[i])
		changed[5].H++
		if len(g.Holes) > 0 {
			k := r.IntN(len(g.Holes))
			changed = append(changed, g, g, g)
			changed[6].Holes = slices.Delete(slices.Clone(g.Holes), k, k+1)
			changed[7].Holes = slices.Insert(slices.Clone(g.Holes), k, g.Holes[k])
			changed[8].Cells = append(slices.Clone(g.Cells), g.Holes[k])
		}
		for k, bad := range changed {
			if e := grids.Check(bad); e != api.ErrGrid || isValid(bad) {
				t.Error(k, bad, e)
			}
		}
	}
}

// P13.1: grids that are not valid, each for another reason: no cell is found in them.
func TestBad(t *testing.T) {
	for i, g := range badGrids() {
		if e := grids.Check(g); e != api.ErrGrid || isValid(g) {
			t.Error(i, g, e)
		}
		for _, pos := range []int{0, 1, 2, 3, 16, 255, -1} {
			if cell, ok := grids.Cell(g, pos); cell != 0 || ok {
				t.Error(i, g, pos, cell, ok)
			}
		}
	}
}

// P13.1: there is no cell at numbers that are not positions.
func TestCellOddPositions(t *testing.T) {
	for _, g := range largeGrids() {
		for _, pos := range append([]int{g.W * g.H, g.W*g.H + 1, -g.W}, oddNumbers...) {
			if cell, ok := grids.Cell(g, pos); cell != 0 || ok {
				t.Error(g.Shape, g.W, g.H, pos, cell, ok)
			}
		}
	}
}
