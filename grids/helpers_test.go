package grids_test

import (
	"math"
	"math/rand/v2"
	"slices"
	"testing"

	"gridwright/api"
	"gridwright/grids"
)

const (
	mostSide  = 16
	mostCells = 256
	families  = 8
)

func source(seed uint64) *rand.Rand { return rand.New(rand.NewPCG(seed, 13)) }

var shapes = []int{api.SquareG, api.HexG}

// oddNumbers are neither shapes, sides, positions nor families, but some have the low bits of one.
var oddNumbers = []int{-1, -2, -255, -256, 256, 257, 1 << 16, 1<<16 + 1, 1 << 32, 1<<32 + 1, 1<<32 + 2, -1 << 32, 1 - 1<<32, math.MinInt, math.MinInt + 1, math.MaxInt}

// A spot is a column and a row with a cell.
type spot struct{ cell, x, y int }

// spotsOf goes through the rows of a valid grid.
func spotsOf(g api.Grid) (l []spot) {
	for y := range g.H {
		for x := range g.W {
			if !slices.Contains(g.Holes, y*g.W+x) {
				l = append(l, spot{len(l), x, y})
			}
		}
	}
	return l
}

func (s spot) q() int { return s.x - (s.y-s.y%2)/2 }

func (s spot) r() int { return s.y }

// isValid is the definition of a valid grid.
func isValid(g api.Grid) bool {
	if g.Shape != 1 && g.Shape != 2 || g.W < 1 || g.W > mostSide || g.H < 1 || g.H > mostSide {
		return false
	}
	for i, pos := range g.Holes {
		if pos < 0 || pos >= g.W*g.H || i > 0 && g.Holes[i-1] >= pos {
			return false
		}
	}
	var cells []int
	for pos := range g.W * g.H {
		if !slices.Contains(g.Holes, pos) {
			cells = append(cells, pos)
		}
	}
	return len(cells) > 0 && slices.Equal(g.Cells, cells)
}

// areNeighbors is the definition of neighbors.
func areNeighbors(shape int, a, b spot) bool {
	if shape == api.SquareG {
		return a.y == b.y && (a.x == b.x+1 || b.x == a.x+1) || a.x == b.x && (a.y == b.y+1 || b.y == a.y+1)
	}
	switch [2]int{b.q() - a.q(), b.r() - a.r()} {
	case [2]int{1, 0}, [2]int{-1, 0}, [2]int{0, 1}, [2]int{0, -1}, [2]int{1, -1}, [2]int{-1, 1}:
		return true
	}
	return false
}

// touch reports whether hexagons of the width 2, whose odd rows are shifted to the right by 1, have a side in common.
func touch(a, b spot) bool {
	dx, dy := 2*a.x+a.y%2-2*b.x-b.y%2, a.y-b.y
	return dy == 0 && (dx == 2 || dx == -2) || (dy == 1 || dy == -1) && (dx == 1 || dx == -1)
}

// neighborsOf is the definition of Neighbors.
func neighborsOf(g api.Grid) (l [][]int) {
	spots := spotsOf(g)
	for _, a := range spots {
		var near []int
		for _, b := range spots {
			if areNeighbors(g.Shape, a, b) {
				near = append(near, b.cell)
			}
		}
		l = append(l, near)
	}
	return l
}

// linesOf lists the cells of each line that has any: a line is the spots with a number, and they are ordered by another number.
func linesOf(g api.Grid, line, order func(s spot) int) (l [][]int) {
	for number := -2 * mostSide; number <= 2*mostSide; number++ {
		var on []spot
		for _, s := range spotsOf(g) {
			if line(s) == number {
				on = append(on, s)
			}
		}
		slices.SortFunc(on, func(a, b spot) int { return order(a) - order(b) })
		var cells []int
		for _, s := range on {
			cells = append(cells, s.cell)
		}
		if cells != nil {
			l = append(l, cells)
		}
	}
	return l
}

func byX(s spot) int { return s.x }

func byY(s spot) int { return s.y }

// diagonalsOf is the definition of DiagonalsF.
func diagonalsOf(g api.Grid) (l [][]int) {
	if g.Shape == api.HexG {
		return linesOf(g, func(s spot) int { return s.q() + s.r() }, spot.r)
	}
	if g.W != g.H {
		return nil
	}
	var first, second []int
	for _, s := range spotsOf(g) {
		if s.x == s.y {
			first = append(first, s.cell)
		}
		if s.x == g.W-1-s.y {
			second = append(second, s.cell)
		}
	}
	if first != nil {
		l = append(l, first)
	}
	if second != nil && !slices.Equal(first, second) {
		l = append(l, second)
	}
	return l
}

// nearOf is the definition of NearF.
func nearOf(g api.Grid) (l [][]int) {
	for i, near := range neighborsOf(g) {
		here := append([]int{i}, near...)
		slices.Sort(here)
		l = append(l, here)
	}
	return l
}

// pairsOf is the definition of PairsF.
func pairsOf(g api.Grid) (l [][]int) {
	for i, near := range neighborsOf(g) {
		for j := i + 1; j < len(g.Cells); j++ {
			if slices.Contains(near, j) {
				l = append(l, []int{i, j})
			}
		}
	}
	return l
}

// familyOf is the definition of Family, for families that there are.
func familyOf(g api.Grid, family int) (l [][]int) {
	switch family {
	case api.CellsF:
		for i := range g.Cells {
			l = append(l, []int{i})
		}
	case api.RowsF:
		l = linesOf(g, byY, byX)
	case api.ColumnsF:
		if g.Shape == api.SquareG {
			return linesOf(g, byX, byY)
		}
		l = linesOf(g, spot.q, spot.r)
	case api.DiagonalsF:
		l = diagonalsOf(g)
	case api.AroundF:
		l = neighborsOf(g)
	case api.NearF:
		l = nearOf(g)
	case api.PairsF:
		l = pairsOf(g)
	case api.AllF:
		var all []int
		for i := range g.Cells {
			all = append(all, i)
		}
		l = [][]int{all}
	}
	return l
}

func same(a, b [][]int) bool { return slices.EqualFunc(a, b, slices.Equal) }

func sameGrid(a, b api.Grid) bool {
	return a.Shape == b.Shape && a.W == b.W && a.H == b.H && slices.Equal(a.Holes, b.Holes) && slices.Equal(a.Cells, b.Cells)
}

// isZero reports whether no field of a grid has a value.
func isZero(g api.Grid) bool {
	return g.Shape == 0 && g.W == 0 && g.H == 0 && g.Holes == nil && g.Cells == nil
}

// gridWith returns a valid grid, without asking the program.
func gridWith(shape, w, h int, holes ...int) api.Grid {
	g := api.Grid{Shape: shape, W: w, H: h, Holes: holes}
	for pos := range w * h {
		if !slices.Contains(holes, pos) {
			g.Cells = append(g.Cells, pos)
		}
	}
	return g
}

// holesOf returns the positions that are the bits of a number.
func holesOf(bits int) (l []int) {
	for i := 0; bits>>i > 0; i++ {
		if bits>>i&1 == 1 {
			l = append(l, i)
		}
	}
	return l
}

// smallGrids yields all valid grids with a number of positions up to a given one.
func smallGrids(most int) func(yield func(api.Grid) bool) {
	return func(yield func(api.Grid) bool) {
		for _, shape := range shapes {
			for w := 1; w <= most && w <= mostSide; w++ {
				for h := 1; w*h <= most && h <= mostSide; h++ {
					for bits := range 1<<(w*h) - 1 {
						if !yield(gridWith(shape, w, h, holesOf(bits)...)) {
							return
						}
					}
				}
			}
		}
	}
}

// someHoles are positions of a plane, of which at least one is left.
func someHoles(r *rand.Rand, w, h int) (l []int) {
	of, cell := r.IntN(7), r.IntN(w*h)
	for pos := range w * h {
		if pos != cell && r.IntN(8) < of {
			l = append(l, pos)
		}
	}
	return l
}

// someGrid returns a grid of any size.
func someGrid(r *rand.Rand) api.Grid {
	shape, w, h := shapes[r.IntN(2)], 1+r.IntN(mostSide), 1+r.IntN(mostSide)
	if r.IntN(3) == 0 {
		h = w
	}
	return gridWith(shape, w, h, someHoles(r, w, h)...)
}

// largeGrids are grids with sides that are as long as they can be, or nearly, with few or many holes.
func largeGrids() (l []api.Grid) {
	r := source(1)
	for _, shape := range shapes {
		for _, w := range []int{1, 2, 15, 16} {
			for _, h := range []int{1, 2, 15, 16} {
				l = append(l, gridWith(shape, w, h), gridWith(shape, w, h, someHoles(r, w, h)...))
				last := w*h - 1
				if last > 0 {
					l = append(l, gridWith(shape, w, h, 0), gridWith(shape, w, h, last))
				}
				if last > 1 {
					l = append(l, gridWith(shape, w, h, 0, last))
				}
			}
		}
		only := gridWith(shape, 16, 16).Cells
		l = append(l, gridWith(shape, 16, 16, only[1:]...), gridWith(shape, 16, 16, only[:255]...))
	}
	return l
}

// badGrids are not valid, each for another reason.
func badGrids() []api.Grid {
	l := []api.Grid{
		{},
		{Shape: api.SquareG},
		{Shape: api.SquareG, W: 1, H: 1},
		{Shape: api.HexG, W: 1, H: 1, Holes: []int{0}},
		{Shape: api.SquareG, W: 1, H: 1, Holes: []int{0}, Cells: []int{0}},
		{Shape: api.SquareG, W: 2, H: 1, Cells: []int{0}},
		{Shape: api.SquareG, W: 2, H: 1, Cells: []int{1}},
		{Shape: api.SquareG, W: 2, H: 1, Cells: []int{1, 0}},
		{Shape: api.SquareG, W: 2, H: 1, Cells: []int{0, 0, 1}},
		{Shape: api.SquareG, W: 2, H: 1, Cells: []int{0, 1, 1}},
		{Shape: api.SquareG, W: 2, H: 1, Cells: []int{0, 1, 2}},
		{Shape: api.SquareG, W: 2, H: 1, Cells: []int{-1, 0, 1}},
		{Shape: api.SquareG, W: 2, H: 2, Holes: []int{3}, Cells: []int{0, 1, 2, 3}},
		{Shape: api.SquareG, W: 2, H: 2, Holes: []int{2}, Cells: []int{0, 1, 2}},
		{Shape: api.HexG, W: 2, H: 2, Holes: []int{2, 3}, Cells: []int{0, 1, 2}},
		{Shape: api.HexG, W: 2, H: 2, Holes: []int{3, 2}, Cells: []int{0, 1}},
		{Shape: api.HexG, W: 2, H: 2, Holes: []int{3, 3}, Cells: []int{0, 1, 2}},
		{Shape: api.HexG, W: 2, H: 2, Holes: []int{4}, Cells: []int{0, 1, 2, 3}},
		{Shape: api.HexG, W: 2, H: 2, Holes: []int{-1}, Cells: []int{0, 1, 2, 3}},
		{Shape: 0, W: 2, H: 2, Cells: []int{0, 1, 2, 3}},
		{Shape: 3, W: 2, H: 2, Cells: []int{0, 1, 2, 3}},
		{Shape: api.SquareG, W: 0, H: 2, Cells: []int{0}},
		{Shape: api.SquareG, W: 2, H: 0, Cells: []int{0}},
		{Shape: api.HexG, W: -2, H: -2, Cells: []int{0, 1, 2, 3}},
		gridWith(api.SquareG, 17, 1),
		gridWith(api.SquareG, 1, 17),
		gridWith(api.HexG, 17, 15),
		gridWith(api.HexG, 16, 17),
	}
	for _, x := range oddNumbers {
		l = append(l, api.Grid{Shape: x, W: 1, H: 1, Cells: []int{0}},
			api.Grid{Shape: api.SquareG, W: x, H: 1, Cells: []int{0}},
			api.Grid{Shape: api.SquareG, W: 1, H: x, Cells: []int{0}},
			api.Grid{Shape: api.SquareG, W: x, H: x, Cells: []int{0}},
			api.Grid{Shape: api.HexG, W: 1, H: 1, Cells: []int{x}},
			api.Grid{Shape: api.HexG, W: 1, H: 1, Holes: []int{x}, Cells: []int{0}},
			api.Grid{Shape: api.HexG, W: 2, H: 1, Holes: []int{0, x}, Cells: []int{1}})
	}
	return l
}

func family(t *testing.T, g api.Grid, number int) [][]int {
	t.Helper()
	l, e := grids.Family(g, number)
	if e != api.OK {
		t.Fatal(g, number, e)
	}
	return l
}

func neighbors(t *testing.T, g api.Grid) [][]int {
	t.Helper()
	l, e := grids.Neighbors(g)
	if e != api.OK {
		t.Fatal(g, e)
	}
	return l
}
