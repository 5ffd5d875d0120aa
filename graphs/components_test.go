package graphs_test

import (
	"slices"
	"testing"

	"gridwright/api"
	"gridwright/graphs"
)

// P12.2: the examples of the chapter.
func TestComponentsExamples(t *testing.T) {
	g := edges(4, [2]int{0, 1}, [2]int{1, 2})
	for _, x := range []struct {
		in   []bool
		want [][]int
	}{
		{all(4), [][]int{{0, 1, 2}, {3}}},
		{only(4, 0, 2, 3), [][]int{{0}, {2}, {3}}},
		{only(4, 1, 2), [][]int{{1, 2}}},
		{none(4), nil},
	} {
		if l := components(t, g, x.in); !same(l, x.want) {
			t.Error(x.in, l, x.want)
		}
	}
	for _, empty := range [][][]int{nil, {}} {
		for _, in := range [][]bool{nil, {}} {
			if l := components(t, empty, in); len(l) != 0 {
				t.Error(l)
			}
		}
	}
	if l, e := graphs.Component(g, only(4, 0, 2), 1); l != nil || e != api.ErrArg {
		t.Error(l, e)
	}
	if l, e := graphs.Component(g, all(4), 2); !slices.Equal(l, []int{0, 1, 2}) || e != api.OK {
		t.Error(l, e)
	}
}

// checkComponents compares Components and Component with their definition, for all nodes, or some of a large graph.
func checkComponents(t *testing.T, name any, g [][]int, in []bool) {
	t.Helper()
	want := componentsOf(g, in)
	if l := components(t, g, in); !same(l, want) {
		t.Error(name, in, l, want)
	}
	of := make([][]int, len(g))
	for _, l := range want {
		for _, x := range l {
			of[x] = l
		}
	}
	step := 1 + len(g)/30
	for x := len(g) % step; x < len(g); x += step {
		e := api.OK
		if !in[x] {
			e = api.ErrArg
		}
		if l, f := graphs.Component(g, in, x); !slices.Equal(l, of[x]) || f != e {
			t.Error(name, in, x, l, of[x], f)
		}
	}
}

// P12.2: all sets of all graphs with up to five nodes.
func TestComponentsAllSmall(t *testing.T) {
	for n := range 6 {
		sets := setsOf(n)
		for g := range graphsOf(n) {
			for _, in := range sets {
				checkComponents(t, g, g, in)
			}
		}
	}
}

// P12.2: sets of larger graphs.
func TestComponentsRandom(t *testing.T) {
	r := source(3)
	for range 500 {
		g := someGraph(r)
		checkComponents(t, g, g, all(len(g)))
		checkComponents(t, g, g, someSet(r, len(g)))
	}
}

// P12.2: sets of graphs of the largest size.
func TestComponentsLarge(t *testing.T) {
	r := source(4)
	for name, g := range largeGraphs() {
		n := len(g)
		for _, in := range [][]bool{all(n), none(n), only(n, n-1), only(n, 0), without(all(n), n/2), someSet(r, n), someSet(r, n)} {
			checkComponents(t, name, g, in)
		}
	}
}

// P12.2: a set of another size, and a start that is not a node of the set.
func TestComponentsArguments(t *testing.T) {
	for _, g := range [][][]int{nil, edges(1), path(3), cycle(4), edges(5), complete(mostNodes), path(mostNodes)} {
		n := len(g)
		for _, size := range []int{0, 1, n - 1, n + 1, n + 2, 2 * n, mostNodes + 1} {
			if size == n || size < 0 {
				continue
			}
			for _, in := range [][]bool{all(size), none(size)} {
				if l, e := graphs.Components(g, in); l != nil || e != api.ErrArg {
					t.Error(n, size, l, e)
				}
				for _, start := range []int{-1, 0, size - 1, n - 1, n} {
					if l, e := graphs.Component(g, in, start); l != nil || e != api.ErrArg {
						t.Error(n, size, start, l, e)
					}
				}
			}
		}
		for _, start := range append([]int{n, n + 1, 2 * n, -n - 1}, oddNodes...) {
			if l, e := graphs.Component(g, all(n), start); l != nil || e != api.ErrArg {
				t.Error(n, start, l, e)
			}
		}
		for start := range n {
			if l, e := graphs.Component(g, without(all(n), start), start); l != nil || e != api.ErrArg {
				t.Error(n, start, l, e)
			}
			if l, e := graphs.Component(g, only(n, start), start); !slices.Equal(l, []int{start}) || e != api.OK {
				t.Error(n, start, l, e)
			}
		}
	}
}
