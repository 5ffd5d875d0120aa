package graphs_test

import (
	"slices"
	"testing"

	"gridwright/api"
	"gridwright/graphs"
)

func checkOf(g [][]int) api.Errno {
	if isValid(g) {
		return api.OK
	}
	return api.ErrGraph
}

// P12.1: the examples of the chapter.
func TestCheckExamples(t *testing.T) {
	for _, x := range []struct {
		g    [][]int
		want api.Errno
	}{
		{nil, api.OK},
		{[][]int{}, api.OK},
		{[][]int{nil}, api.OK},
		{[][]int{{}, nil}, api.OK},
		{[][]int{{1}, {0, 2}, {1}, nil}, api.OK},
		{[][]int{{0}}, api.ErrGraph},
		{[][]int{{0, 1}, {0}}, api.ErrGraph},
		{[][]int{{1}, nil}, api.ErrGraph},
		{[][]int{nil, {0}}, api.ErrGraph},
		{[][]int{{1, 1}, {0}}, api.ErrGraph},
		{[][]int{{1, 2}, {0}, {0}}, api.OK},
		{[][]int{{2, 1}, {0}, {0}}, api.ErrGraph},
		{[][]int{{1}}, api.ErrGraph},
		{[][]int{{-1}}, api.ErrGraph},
	} {
		if e := graphs.Check(x.g); e != x.want {
			t.Error(x.g, e, x.want)
		}
	}
}

// listsOf returns all lists of at most a length with elements from -1 to greatest.
func listsOf(length, greatest int) [][]int {
	l := [][]int{nil}
	for first := 0; length > 0; length-- {
		last := len(l)
		for ; first < last; first++ {
			for x := -1; x <= greatest; x++ {
				l = append(l, append(slices.Clone(l[first]), x))
			}
		}
	}
	return l
}

// P12.1: all choices of short lists for up to three nodes.
func TestCheckAllSmall(t *testing.T) {
	for n, length := range []int{0, 4, 3, 2} {
		lists := listsOf(length, n)
		var extend func(g [][]int)
		extend = func(g [][]int) {
			if len(g) == n {
				if e := graphs.Check(g); e != checkOf(g) {
					t.Error(g, e)
				}
				return
			}
			for _, l := range lists {
				extend(append(slices.Clone(g), l))
			}
		}
		extend(nil)
	}
}

// P12.1: all graphs with up to five nodes are valid.
func TestCheckAllGraphs(t *testing.T) {
	for n := range 6 {
		for g := range graphsOf(n) {
			if e := graphs.Check(g); e != api.OK {
				t.Error(g, e)
			}
		}
	}
}

// P12.1: a graph has at most 256 nodes.
func TestCheckNumberOfNodes(t *testing.T) {
	for _, n := range []int{1, 2, 3, 254, 255, 256, 257, 258, 511, 512, 513, 1000, 1 << 16} {
		want := api.OK
		if n > mostNodes {
			want = api.ErrGraph
		}
		for _, g := range [][][]int{edges(n), path(n), star(n, n-1), edges(n, [2]int{0, n - 1})} {
			if n == 1 {
				g = edges(1)
			}
			if e := graphs.Check(g); e != want {
				t.Error(n, e)
			}
		}
	}
}

// P12.1: large graphs are valid; with one change they are not.
func TestCheckLarge(t *testing.T) {
	r := source(2)
	for name, g := range largeGraphs() {
		if e := graphs.Check(g); e != api.OK {
			t.Error(name, e)
		}
		for range 50 {
			i := r.IntN(len(g))
			for change, l := range changesOf(g[i], i, len(g), r.IntN) {
				changed := slices.Clone(g)
				changed[i] = l
				if e := graphs.Check(changed); e != checkOf(changed) || e != api.ErrGraph {
					t.Error(name, i, change, e)
				}
			}
		}
	}
}

// changesOf are lists that differ from the list of neighbors of a node such that the graph is not valid.
func changesOf(l []int, node, nodes int, number func(n int) int) map[string][]int {
	m := map[string][]int{
		"itself": insert(l, node),
		"odd":    append(slices.Clone(l), oddNodes[number(len(oddNodes))]),
		"first":  append([]int{oddNodes[number(len(oddNodes))]}, l...),
		"after":  append(slices.Clone(l), nodes),
		"before": append([]int{-1}, l...),
	}
	other := number(nodes)
	if _, found := slices.BinarySearch(l, other); !found && other != node {
		m["one more"] = insert(l, other)
	}
	if len(l) > 0 {
		k := number(len(l))
		m["one less"] = slices.Delete(slices.Clone(l), k, k+1)
		m["twice"] = slices.Insert(slices.Clone(l), k, l[k])
		m["twice, at the end"] = append(slices.Clone(l), l[0])
		m["instead"] = slices.Replace(slices.Clone(l), k, k+1, oddNodes[number(len(oddNodes))])
	}
	if len(l) > 1 {
		k := number(len(l) - 1)
		swapped := slices.Clone(l)
		swapped[k], swapped[k+1] = swapped[k+1], swapped[k]
		m["exchanged"] = swapped
		reversed := slices.Clone(l)
		slices.Reverse(reversed)
		m["reversed"] = reversed
	}
	return m
}

func insert(l []int, x int) []int {
	i, _ := slices.BinarySearch(l, x)
	return slices.Insert(slices.Clone(l), i, x)
}

// badGraphs are not valid, each for another reason.
func badGraphs() [][][]int {
	g := [][][]int{
		edges(mostNodes + 1),
		path(mostNodes + 1),
		{{0}},
		{nil, {1}},
		{{1}, nil},
		{nil, {0}},
		{{1}, {0, 2}, {1, 3}, nil},
		{{1, 1}, {0, 0}},
		{{2, 1}, {0}, {0}},
		{nil, nil, {-1}},
		{nil, nil, {3}},
	}
	for _, x := range oddNodes {
		g = append(g, [][]int{{x}}, [][]int{{1}, {0, x}}, [][]int{{1}, {x, 0}})
	}
	return g
}

// P12.1: graphs that are not valid, each for another reason.
func TestCheckBad(t *testing.T) {
	for i, g := range badGraphs() {
		if e := graphs.Check(g); e != api.ErrGraph {
			t.Error(i, len(g), e)
		}
	}
}

// P12.2, P12.3, P12.4: a graph that is not valid is reported before anything else.
func TestBadGraphsFirst(t *testing.T) {
	for i, g := range badGraphs() {
		for _, in := range [][]bool{nil, none(len(g)), all(len(g)), all(len(g) + 1)} {
			for _, node := range []int{0, len(g) - 1, len(g), -1} {
				if l, e := graphs.Component(g, in, node); l != nil || e != api.ErrGraph {
					t.Error(i, len(in), node, len(l), e)
				}
				if ok, e := graphs.Splits(g, in, in, node); ok || e != api.ErrGraph {
					t.Error(i, len(in), node, ok, e)
				}
				if ok, e := graphs.Splits(g, all(len(g)), in, node); ok || e != api.ErrGraph {
					t.Error(i, len(in), node, ok, e)
				}
			}
			if l, e := graphs.Components(g, in); l != nil || e != api.ErrGraph {
				t.Error(i, len(in), len(l), e)
			}
			if ok, e := graphs.Ring(g, in); ok || e != api.ErrGraph {
				t.Error(i, len(in), ok, e)
			}
		}
	}
}
