package graphs_test

import (
	"testing"

	"gridwright/api"
	"gridwright/graphs"
)

// P12.4: the examples of the chapter, and sets that are nearly rings.
func TestRingExamples(t *testing.T) {
	apart := edges(6, [2]int{0, 1}, [2]int{1, 2}, [2]int{0, 2}, [2]int{3, 4}, [2]int{4, 5}, [2]int{3, 5})
	tail := edges(4, [2]int{0, 1}, [2]int{1, 2}, [2]int{0, 2}, [2]int{2, 3})
	for i, x := range []struct {
		g    [][]int
		in   []bool
		want bool
	}{
		{cycle(4), all(4), true},
		{complete(3), all(3), true},
		{complete(4), all(4), false},
		{complete(4), only(4, 0, 1, 3), true},
		{nil, nil, false},
		{complete(3), none(3), false},
		{complete(3), only(3, 0), false},
		{complete(3), only(3, 1, 2), false},
		{complete(2), all(2), false},
		{edges(1), all(1), false},
		{path(3), all(3), false},
		{path(4), all(4), false},
		{edges(3), all(3), false},
		{apart, all(6), false},
		{apart, only(6, 0, 1, 2), true},
		{apart, only(6, 3, 4, 5), true},
		{apart, only(6, 0, 1, 3), false},
		{tail, all(4), false},
		{tail, only(4, 0, 1, 2), true},
		{edges(4, [2]int{0, 1}, [2]int{1, 2}, [2]int{0, 2}), all(4), false},
		{grid(3, 3), all(9), false},
		{grid(3, 3), without(all(9), 4), true},
		{grid(3, 3), without(all(9), 0), false},
		{grid(2, 3), all(6), false},
		{grid(2, 2), all(4), true},
	} {
		if ok := ring(t, x.g, x.in); ok != x.want {
			t.Error(i, x.g, x.in, ok)
		}
	}
}

// P12.4: all sets of all graphs with up to five nodes, and all nodes of those with six.
func TestRingAllSmall(t *testing.T) {
	for n := range 7 {
		sets := setsOf(n)
		if n == 6 {
			sets = [][]bool{all(n)}
		}
		for g := range graphsOf(n) {
			for _, in := range sets {
				if want := isRing(g, in); ring(t, g, in) != want {
					t.Error(g, in, want)
				}
			}
		}
	}
}

// P12.4: cycles of all sizes, whole and with one node less, and with one more pair of neighbors.
func TestRingCycles(t *testing.T) {
	r := source(7)
	for n := 3; n <= mostNodes; n++ {
		g := renamed(cycle(n), r.Perm(n))
		if !ring(t, g, all(n)) {
			t.Error(n)
		}
		x := r.IntN(n)
		if ring(t, g, without(all(n), x)) {
			t.Error(n, x)
		}
		if n == 3 {
			continue
		}
		chord := edges(n, append(pairsOf(cycle(n)), [2]int{0, 2})...)
		if ring(t, chord, all(n)) || !ring(t, chord, without(all(n), 1)) {
			t.Error(n)
		}
	}
}

func pairsOf(g [][]int) (l [][2]int) {
	for i, neighbors := range g {
		for _, j := range neighbors {
			l = append(l, [2]int{i, j})
		}
	}
	return l
}

// P12.4: two cycles beside each other are no ring, and each of them is one.
func TestRingTwoCycles(t *testing.T) {
	r := source(8)
	for range 100 {
		a, b := 3+r.IntN(126), 3+r.IntN(126)
		pairs := pairsOf(cycle(a))
		for _, p := range pairsOf(cycle(b)) {
			pairs = append(pairs, [2]int{a + p[0], a + p[1]})
		}
		names := r.Perm(a + b)
		g, first, second := renamed(edges(a+b, pairs...), names), none(a+b), none(a+b)
		for i, name := range names {
			first[name], second[name] = i < a, i >= a
		}
		if ring(t, g, all(a+b)) || !ring(t, g, first) || !ring(t, g, second) {
			t.Error(a, b)
		}
	}
}

// P12.4: sets of graphs of the largest size.
func TestRingLarge(t *testing.T) {
	r := source(9)
	for name, g := range largeGraphs() {
		n := len(g)
		for _, in := range [][]bool{all(n), none(n), only(n, 0, 1, 2), only(n, n-3, n-2, n-1), only(n, 0, 1, 2, 3), someSet(r, n)} {
			if want := isRing(g, in); ring(t, g, in) != want {
				t.Error(name, in, want)
			}
		}
	}
	border := all(256)
	for y := 1; y < 15; y++ {
		for x := 1; x < 15; x++ {
			border[y*16+x] = false
		}
	}
	if !ring(t, grid(16, 16), border) || ring(t, grid(16, 16), without(border, 0)) {
		t.Error("the border of a grid")
	}
}

// P12.4: a set of another size.
func TestRingArguments(t *testing.T) {
	for _, g := range [][][]int{nil, edges(1), cycle(3), cycle(4), cycle(mostNodes)} {
		n := len(g)
		for _, size := range []int{0, 1, n - 1, n + 1, 2 * n, mostNodes + 1} {
			if size == n || size < 0 {
				continue
			}
			for _, in := range [][]bool{all(size), none(size)} {
				if ok, e := graphs.Ring(g, in); ok || e != api.ErrArg {
					t.Error(n, size, ok, e)
				}
			}
		}
	}
}
