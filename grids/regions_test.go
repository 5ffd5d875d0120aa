package grids_test

import (
	"slices"
	"testing"

	"gridwright/api"
	"gridwright/grids"
)

// regionsOf is the definition of Regions, for a valid grid.
func regionsOf(g api.Grid, lists [][]int) (l [][]int, e api.Errno) {
	if len(lists) > 64 {
		return nil, api.ErrGrid
	}
	for _, positions := range lists {
		var cells []int
		for _, pos := range positions {
			cell := slices.Index(g.Cells, pos)
			if cell < 0 || slices.Contains(cells, cell) {
				return nil, api.ErrGrid
			}
			cells = append(cells, cell)
		}
		if len(cells) == 0 {
			return nil, api.ErrGrid
		}
		l = append(l, cells)
	}
	return l, api.OK
}

// checkRegions compares Regions with its definition.
func checkRegions(t *testing.T, g api.Grid, lists [][]int) {
	t.Helper()
	want, f := regionsOf(g, lists)
	if l, e := grids.Regions(g, lists); !same(l, want) || e != f || f != api.OK && l != nil {
		t.Error(g.Shape, g.W, g.H, len(lists), e, f)
	}
}

// P13.3: the examples of the chapter.
func TestRegionsExamples(t *testing.T) {
	g := gridWith(api.SquareG, 2, 2, 3)
	if l, e := grids.Regions(g, [][]int{{2, 0}}); !same(l, [][]int{{2, 0}}) || e != api.OK {
		t.Error(l, e)
	}
	for _, bad := range [][]int{{3}, {0, 3}, {3, 0}, {0, 1, 2, 3}, {0, 0}, {1, 0, 1}, {}, nil, {4}, {-1}} {
		for _, lists := range [][][]int{{bad}, {{0}, bad}, {bad, {0}}} {
			if l, e := grids.Regions(g, lists); l != nil || e != api.ErrGrid {
				t.Error(lists, l, e)
			}
		}
	}
	g = gridWith(api.HexG, 3, 2, 0, 4)
	if l, e := grids.Regions(g, [][]int{{5, 1, 3}, {3}, {2, 1}, {3}}); !same(l, [][]int{{3, 0, 2}, {2}, {1, 0}, {2}}) || e != api.OK {
		t.Error(l, e)
	}
}

// P13.3: one or two of all short lists.
func TestRegionsAllSmall(t *testing.T) {
	for _, g := range []api.Grid{gridWith(api.SquareG, 2, 2, 3), gridWith(api.HexG, 2, 2, 0), gridWith(api.HexG, 1, 3, 1), gridWith(api.SquareG, 3, 1)} {
		lists := listsOf(3, 4)
		for _, a := range lists {
			checkRegions(t, g, [][]int{a})
			for _, b := range lists {
				checkRegions(t, g, [][]int{a, b})
			}
		}
		for _, a := range listsOf(5, 3) {
			checkRegions(t, g, [][]int{a})
		}
	}
}

// P13.3: there may be no lists, and up to 64.
func TestRegionsNumberOfLists(t *testing.T) {
	for _, g := range largeGrids() {
		for _, lists := range [][][]int{nil, {}} {
			if l, e := grids.Regions(g, lists); len(l) != 0 || e != api.OK {
				t.Error(l, e)
			}
		}
		last := len(g.Cells) - 1
		for _, n := range []int{1, 4, 15, 16, 17, 32, 63, 64, 65, 66, 128, 255, 256, 257, 320, 1 << 16, 1<<16 + 1} {
			lists := slices.Repeat([][]int{{g.Cells[last]}}, n)
			l, e := grids.Regions(g, lists)
			switch {
			case n <= 64 && (e != api.OK || !same(l, slices.Repeat([][]int{{last}}, n))), n > 64 && (e != api.ErrGrid || l != nil):
				t.Error(g.Shape, g.W, g.H, n, len(l), e)
			}
		}
	}
}

// P13.3: lists of any cells of larger grids, also all of them, and the same with one bad element.
func TestRegionsRandom(t *testing.T) {
	r := source(5)
	for i := range 400 {
		g := someGrid(r)
		if i < 50 {
			g = gridWith(shapes[i%2], mostSide, mostSide)
		}
		var lists [][]int
		for range 1 + r.IntN(6) {
			l := slices.Clone(g.Cells)
			r.Shuffle(len(l), func(i, j int) { l[i], l[j] = l[j], l[i] })
			if r.IntN(2) == 0 {
				l = l[:1+r.IntN(len(l))]
			}
			lists = append(lists, l)
		}
		checkRegions(t, g, lists)
		bad := append([]int{g.W * g.H, -1, oddNumbers[r.IntN(len(oddNumbers))]}, g.Holes...)
		k := r.IntN(len(lists))
		twice := lists[k][r.IntN(len(lists[k]))]
		for _, x := range append(bad, twice) {
			changed := slices.Clone(lists)
			changed[k] = slices.Insert(slices.Clone(lists[k]), r.IntN(len(lists[k])+1), x)
			checkRegions(t, g, changed)
			if l, e := grids.Regions(g, changed); l != nil || e != api.ErrGrid {
				t.Error(g.Shape, g.W, g.H, x, len(l), e)
			}
		}
		lists[k] = nil
		if l, e := grids.Regions(g, lists); l != nil || e != api.ErrGrid {
			t.Error(g.Shape, g.W, g.H, len(l), e)
		}
	}
}

// P13.3: all elements of a long list are looked at.
func TestRegionsLongLists(t *testing.T) {
	g := gridWith(api.SquareG, mostSide, mostSide)
	for k := range mostCells {
		l := slices.Clone(g.Cells)
		l[k] = mostCells
		checkRegions(t, g, [][]int{l})
		checkRegions(t, g, [][]int{slices.Clone(g.Cells), append(slices.Clone(g.Cells), k)})
		l[k] = (k + 1) % mostCells
		checkRegions(t, g, [][]int{l})
	}
	checkRegions(t, g, [][]int{slices.Repeat([]int{7}, 100000)})
}

// P13.3: numbers that are not positions.
func TestRegionsOddPositions(t *testing.T) {
	for _, g := range largeGrids() {
		for _, x := range oddNumbers {
			for _, lists := range [][][]int{{{x}}, {{g.Cells[0], x}}, {{x, g.Cells[0]}}, {g.Cells, {x}}} {
				if l, e := grids.Regions(g, lists); l != nil || e != api.ErrGrid {
					t.Error(g.Shape, g.W, g.H, x, len(l), e)
				}
			}
		}
	}
}

// P13.3: grids that are not valid.
func TestRegionsOfBadGrids(t *testing.T) {
	for i, g := range badGrids() {
		for _, lists := range [][][]int{nil, {{0}}, {{1}}, {{0, 1}}, {{271}}, {g.Cells}, {nil}, {{-1}}, slices.Repeat([][]int{{0}}, 65)} {
			if l, e := grids.Regions(g, lists); l != nil || e != api.ErrGrid {
				t.Error(i, g, lists, l, e)
			}
		}
	}
}
