package graphs_test

import (
	"testing"

	"gridwright/api"
	"gridwright/graphs"
)

// P12.3: the examples of the chapter.
func TestSplitsExamples(t *testing.T) {
	g := edges(4, [2]int{0, 1}, [2]int{1, 2})
	for _, x := range []struct {
		in, some []bool
		at       int
		want     bool
	}{
		{all(4), all(4), 1, true},
		{all(4), all(4), 0, false},
		{all(4), all(4), 2, false},
		{all(4), all(4), 3, false},
		{all(4), only(4, 0), 1, false},
		{all(4), only(4, 0, 1), 1, false},
		{all(4), only(4, 0, 2), 1, true},
		{all(4), only(4, 0, 3), 1, false},
		{all(4), none(4), 1, false},
		{only(4, 0, 2), all(4), 1, false},
		{only(4, 0, 1), all(4), 1, false},
		{only(4, 0, 1, 2), only(4, 0, 2), 1, true},
	} {
		if ok := splitsAt(t, g, x.in, x.some, x.at); ok != x.want {
			t.Error(x.in, x.some, x.at, ok)
		}
	}
	for at := range 4 {
		if in := without(all(4), at); splitsAt(t, g, in, in, at) {
			t.Error(at)
		}
	}
}

// P12.3: all choices of sets and nodes of all graphs with up to four nodes, and a third of those with five.
func TestSplitsAllSmall(t *testing.T) {
	for n := range 6 {
		sets, step := setsOf(n), 1
		if n == 5 {
			step = 3
		}
		for g := range graphsOf(n) {
			for i, in := range sets {
				for j := i % step; j < len(sets); j += step {
					for at := range n {
						if want := splits(g, in, sets[j], at); splitsAt(t, g, in, sets[j], at) != want {
							t.Error(g, in, sets[j], at, want)
						}
					}
				}
			}
		}
	}
}

// P12.3: sets of larger graphs.
func TestSplitsRandom(t *testing.T) {
	r := source(5)
	for range 300 {
		g := someGraph(r)
		n := len(g)
		for _, x := range [][2][]bool{{all(n), all(n)}, {all(n), someSet(r, n)}, {someSet(r, n), all(n)}, {someSet(r, n), someSet(r, n)}} {
			for at := range n {
				if want := splits(g, x[0], x[1], at); splitsAt(t, g, x[0], x[1], at) != want {
					t.Error(g, x, at, want)
				}
			}
		}
	}
}

// P12.3: sets of graphs of the largest size.
func TestSplitsLarge(t *testing.T) {
	r := source(6)
	for name, g := range largeGraphs() {
		n := len(g)
		for range 3 {
			in, some := someSet(r, n), someSet(r, n)
			for _, at := range []int{0, 1, r.IntN(n), r.IntN(n), n - 2, n - 1} {
				for _, x := range [][2][]bool{{all(n), all(n)}, {all(n), some}, {in, all(n)}, {in, some}, {all(n), only(n, 0, n-1)}} {
					if want := splits(g, x[0], x[1], at); splitsAt(t, g, x[0], x[1], at) != want {
						t.Error(name, x, at, want)
					}
				}
			}
		}
	}
}

// P12.3: two nodes of a path are separated by each node between them, and by no other one.
func TestSplitsPath(t *testing.T) {
	g := path(mostNodes)
	for _, ends := range [][2]int{{0, 255}, {0, 2}, {100, 102}, {17, 200}, {253, 255}, {3, 4}, {7, 7}} {
		for at := range g {
			ok := splitsAt(t, g, all(mostNodes), only(mostNodes, ends[0], ends[1]), at)
			if ok != (ends[0] < at && at < ends[1]) {
				t.Error(ends, at, ok)
			}
		}
	}
}

// P12.3: the center of a star separates any two of its other nodes, and these separate nothing.
func TestSplitsStar(t *testing.T) {
	for _, center := range []int{0, 100, 255} {
		g := star(mostNodes, center)
		for _, some := range [][]bool{only(mostNodes, 3, 4), only(mostNodes, 3, 254), only(mostNodes, 3, 4, center), all(mostNodes)} {
			for at := range g {
				if ok := splitsAt(t, g, all(mostNodes), some, at); ok != (at == center) {
					t.Error(center, at, ok)
				}
			}
		}
		for _, some := range [][]bool{only(mostNodes, 3), only(mostNodes, 3, center), none(mostNodes), only(mostNodes, center)} {
			for at := range g {
				if splitsAt(t, g, all(mostNodes), some, at) {
					t.Error(center, at)
				}
			}
		}
	}
}

// P12.3: nodes that another way around the node connects are not separated.
func TestSplitsCycle(t *testing.T) {
	g := cycle(mostNodes)
	for at := range g {
		if splitsAt(t, g, all(mostNodes), all(mostNodes), at) {
			t.Error(at)
		}
		gap := without(all(mostNodes), (at+100)%mostNodes)
		if !splitsAt(t, g, gap, all(mostNodes), at) || splitsAt(t, g, gap, gap, (at+100)%mostNodes) {
			t.Error(at)
		}
	}
}

// P12.3: sets of another size, and what is not a node.
func TestSplitsArguments(t *testing.T) {
	wrong := func(g [][]int, in, some []bool, at int) {
		t.Helper()
		if ok, e := graphs.Splits(g, in, some, at); ok || e != api.ErrArg {
			t.Error(len(g), len(in), len(some), at, ok, e)
		}
	}
	for _, g := range [][][]int{nil, edges(1), path(3), cycle(4), edges(5), star(mostNodes, 1)} {
		n := len(g)
		for _, size := range []int{0, 1, n - 1, n + 1, 2 * n, mostNodes + 1} {
			if size == n || size < 0 {
				continue
			}
			for _, at := range []int{-1, 0, n - 1, n, size - 1} {
				wrong(g, all(size), all(n), at)
				wrong(g, all(n), all(size), at)
				wrong(g, none(n), all(size), at)
				wrong(g, all(size), none(n), at)
				wrong(g, all(size), all(size), at)
			}
		}
		for _, at := range append([]int{n, n + 1, 2 * n, -n - 1}, oddNodes...) {
			wrong(g, all(n), all(n), at)
			wrong(g, none(n), none(n), at)
		}
	}
}
