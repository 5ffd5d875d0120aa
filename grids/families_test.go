package grids_test

import (
	"slices"
	"testing"

	"gridwright/api"
	"gridwright/grids"
)

// P13.2: the examples of the chapter.
func TestFamilyExamples(t *testing.T) {
	hex, holed, square := gridWith(api.HexG, 2, 2), gridWith(api.SquareG, 2, 2, 3), gridWith(api.SquareG, 2, 2)
	if l := neighbors(t, hex); !same(l, [][]int{{1, 2}, {0, 2, 3}, {0, 1, 3}, {1, 2}}) {
		t.Error(l)
	}
	for i, x := range []struct {
		g      api.Grid
		family int
		want   [][]int
	}{
		{hex, api.ColumnsF, [][]int{{0, 2}, {1, 3}}},
		{hex, api.DiagonalsF, [][]int{{0}, {1, 2}, {3}}},
		{square, api.DiagonalsF, [][]int{{0, 3}, {1, 2}}},
		{holed, api.PairsF, [][]int{{0, 1}, {0, 2}}},
	} {
		if l := family(t, x.g, x.family); !same(l, x.want) {
			t.Error(i, l, x.want)
		}
	}
	for _, g := range []api.Grid{hex, holed, square} {
		if l, e := grids.Family(g, 8); l != nil || e != api.ErrArg {
			t.Error(l, e)
		}
	}
}

// P13.2: all families of a square grid of three columns and three rows without its upper corners, worked out by hand.
func TestFamiliesOfSquareGrid(t *testing.T) {
	//   0
	// 1 2 3
	// 4 5 6
	g := gridWith(api.SquareG, 3, 3, 0, 2)
	for number, want := range [families][][]int{
		{{0}, {1}, {2}, {3}, {4}, {5}, {6}},
		{{0}, {1, 2, 3}, {4, 5, 6}},
		{{1, 4}, {0, 2, 5}, {3, 6}},
		{{2, 6}, {2, 4}},
		{{2}, {2, 4}, {0, 1, 3, 5}, {2, 6}, {1, 5}, {2, 4, 6}, {3, 5}},
		{{0, 2}, {1, 2, 4}, {0, 1, 2, 3, 5}, {2, 3, 6}, {1, 4, 5}, {2, 4, 5, 6}, {3, 5, 6}},
		{{0, 2}, {1, 2}, {1, 4}, {2, 3}, {2, 5}, {3, 6}, {4, 5}, {5, 6}},
		{{0, 1, 2, 3, 4, 5, 6}},
	} {
		if l := family(t, g, number); !same(l, want) {
			t.Error(number, l, want)
		}
	}
}

// P13.2: all families of a hexagonal grid of three columns and four rows with two holes, worked out by hand.
func TestFamiliesOfHexGrid(t *testing.T) {
	// 0 1 2
	//  3 - 4
	// 5 6 7
	//  - 8 9
	g := gridWith(api.HexG, 3, 4, 4, 9)
	for number, want := range [families][][]int{
		{{0}, {1}, {2}, {3}, {4}, {5}, {6}, {7}, {8}, {9}},
		{{0, 1, 2}, {3, 4}, {5, 6, 7}, {8, 9}},
		{{5}, {0, 3, 6, 8}, {1, 7, 9}, {2, 4}},
		{{0}, {1, 3, 5}, {2, 6}, {4, 7, 8}, {9}},
		{{1, 3}, {0, 2, 3}, {1, 4}, {0, 1, 5, 6}, {2, 7}, {3, 6}, {3, 5, 7, 8}, {4, 6, 8, 9}, {6, 7, 9}, {7, 8}},
		{{0, 1, 3}, {0, 1, 2, 3}, {1, 2, 4}, {0, 1, 3, 5, 6}, {2, 4, 7}, {3, 5, 6}, {3, 5, 6, 7, 8}, {4, 6, 7, 8, 9}, {6, 7, 8, 9}, {7, 8, 9}},
		{{0, 1}, {0, 3}, {1, 2}, {1, 3}, {2, 4}, {3, 5}, {3, 6}, {4, 7}, {5, 6}, {6, 7}, {6, 8}, {7, 8}, {7, 9}, {8, 9}},
		{{0, 1, 2, 3, 4, 5, 6, 7, 8, 9}},
	} {
		if l := family(t, g, number); !same(l, want) {
			t.Error(number, l, want)
		}
	}
}

// P13.2: a grid with one cell, wherever it is.
func TestFamiliesOfOneCell(t *testing.T) {
	one := [][]int{{0}}
	for _, shape := range shapes {
		for w := 1; w <= 5; w++ {
			for h := 1; h <= 5; h++ {
				for pos := range w * h {
					all := gridWith(shape, w, h).Cells
					g := gridWith(shape, w, h, append(slices.Clone(all[:pos]), all[pos+1:]...)...)
					on := shape == api.HexG || w == h && (pos/w == pos%w || pos/w == w-1-pos%w)
					for number, want := range [families][][]int{one, one, one, nil, {nil}, one, nil, one} {
						if number == api.DiagonalsF && on {
							want = one
						}
						if l := family(t, g, number); !same(l, want) {
							t.Error(g, number, l, want)
						}
					}
				}
			}
		}
	}
}

// P13.2: diagonals of square grids: both, one that is both, one of two that has cells, and none.
func TestSquareDiagonals(t *testing.T) {
	for _, x := range []struct {
		w, h  int
		holes []int
		want  [][]int
	}{
		{1, 1, nil, [][]int{{0}}},
		{1, 2, nil, nil},
		{2, 1, nil, nil},
		{2, 2, []int{0, 3}, [][]int{{0, 1}}},
		{2, 2, []int{1, 2}, [][]int{{0, 1}}},
		{2, 2, []int{0}, [][]int{{2}, {0, 1}}},
		{3, 3, nil, [][]int{{0, 4, 8}, {2, 4, 6}}},
		{3, 3, []int{0, 2, 6, 8}, [][]int{{2}}},
		{3, 3, []int{0, 2, 4, 6, 8}, nil},
		{3, 3, []int{0, 4, 8}, [][]int{{1, 4}}},
		{3, 3, []int{2, 4, 6}, [][]int{{0, 5}}},
		{3, 3, []int{2, 6}, [][]int{{0, 3, 6}, {3}}},
		{3, 2, nil, nil},
		{3, 4, nil, nil},
		{4, 3, []int{0}, nil},
		{4, 4, nil, [][]int{{0, 5, 10, 15}, {3, 6, 9, 12}}},
	} {
		g := gridWith(api.SquareG, x.w, x.h, x.holes...)
		if l := family(t, g, api.DiagonalsF); !same(l, x.want) {
			t.Error(g, l, x.want)
		}
	}
}

// checkFamilies compares Neighbors and Family with their definitions.
func checkFamilies(t *testing.T, g api.Grid) {
	t.Helper()
	if l := neighbors(t, g); !same(l, neighborsOf(g)) {
		t.Error(g, l)
	}
	for number := range families {
		if l := family(t, g, number); !same(l, familyOf(g, number)) {
			t.Error(g, number, l)
		}
	}
}

// P13.2: all grids with up to nine positions.
func TestFamiliesAllSmall(t *testing.T) {
	for g := range smallGrids(9) {
		checkFamilies(t, g)
	}
}

// P13.2: larger grids with some holes.
func TestFamiliesRandom(t *testing.T) {
	r := source(4)
	for range 60 {
		checkFamilies(t, someGrid(r))
	}
}

// P13.2: grids of the largest size.
func TestFamiliesLarge(t *testing.T) {
	for _, g := range largeGrids() {
		checkFamilies(t, g)
	}
}

// P13.2: hexagons are neighbors if they have a side in common: rows with an odd y are shifted to the right.
func TestHexNeighborsTouch(t *testing.T) {
	for w := 1; w <= mostSide; w += 3 {
		for h := 1; h <= mostSide; h++ {
			g := gridWith(api.HexG, w, h, someHoles(source(uint64(w*h)), w, h)...)
			l, spots := neighbors(t, g), spotsOf(g)
			for _, a := range spots {
				for _, b := range spots {
					if touch(a, b) != slices.Contains(l[a.cell], b.cell) {
						t.Error(g, a, b)
					}
				}
			}
		}
	}
}

// P13.2: each cell of a line of a hexagonal grid without holes is a neighbor of the next one on it.
func TestHexLinesAreStraight(t *testing.T) {
	for w := 1; w <= mostSide; w++ {
		for h := 1; h <= mostSide; h++ {
			g := gridWith(api.HexG, w, h)
			near := neighbors(t, g)
			for _, number := range []int{api.RowsF, api.ColumnsF, api.DiagonalsF} {
				for _, l := range family(t, g, number) {
					for i := 1; i < len(l); i++ {
						if !slices.Contains(near[l[i-1]], l[i]) {
							t.Error(w, h, number, l)
						}
					}
				}
			}
		}
	}
}

// P13.2: numbers that are not families.
func TestFamilyNumbers(t *testing.T) {
	for _, g := range largeGrids() {
		for _, number := range append([]int{8, 9, 10, 11, 12, 16, 255, -7, -8}, oddNumbers...) {
			if l, e := grids.Family(g, number); l != nil || e != api.ErrArg {
				t.Error(g.Shape, g.W, g.H, number, l, e)
			}
		}
	}
}

// P13.2: a grid that is not valid is reported before a number that is not a family.
func TestFamiliesOfBadGrids(t *testing.T) {
	for i, g := range badGrids() {
		if l, e := grids.Neighbors(g); l != nil || e != api.ErrGrid {
			t.Error(i, g, l, e)
		}
		for _, number := range append([]int{0, 1, 2, 3, 4, 5, 6, 7, 8}, oddNumbers...) {
			if l, e := grids.Family(g, number); l != nil || e != api.ErrGrid {
				t.Error(i, g, number, l, e)
			}
		}
	}
}
