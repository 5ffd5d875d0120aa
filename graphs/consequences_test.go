package graphs_test

import (
	"slices"
	"testing"

	"gridwright/graphs"
)

// everyGraph calls a function with sets of graphs of all sizes.
func everyGraph(check func(g [][]int, in []bool)) {
	for n := range 5 {
		for g := range graphsOf(n) {
			for _, in := range setsOf(n) {
				check(g, in)
			}
		}
	}
	r := source(10)
	for range 300 {
		g := someGraph(r)
		check(g, all(len(g)))
		check(g, someSet(r, len(g)))
	}
	large := largeGraphs()
	delete(large, "complete, of 255")
	for _, g := range large {
		check(g, all(len(g)))
		check(g, someSet(r, len(g)))
	}
}

// P12.5: each node of a set is in exactly one of its components, other nodes are in none, and neighbors are in the same one.
func TestComponentsOfNodes(t *testing.T) {
	everyGraph(func(g [][]int, in []bool) {
		of := slices.Repeat([]int{-1}, len(g))
		for i, l := range components(t, g, in) {
			for _, x := range l {
				if of[x] != -1 {
					t.Error(len(g), in, x)
				}
				of[x] = i
			}
		}
		for x, neighbors := range g {
			if in[x] != (of[x] != -1) {
				t.Error(len(g), in, x)
			}
			for _, y := range neighbors {
				if in[x] && in[y] && of[x] != of[y] {
					t.Error(len(g), in, x, y)
				}
			}
		}
	})
}

// P12.5: a node splits a set, with all of its nodes, exactly if the set without it has more components.
func TestSplitsMakesComponents(t *testing.T) {
	everyGraph(func(g [][]int, in []bool) {
		before := len(components(t, g, in))
		step := 1 + len(g)/50
		for at := 0; at < len(g); at += step {
			more := len(components(t, g, without(in, at))) > before
			if splitsAt(t, g, in, all(len(g)), at) != more || splitsAt(t, g, in, in, at) != more {
				t.Error(len(g), in, at, more)
			}
		}
	})
}

// P12.5: a ring without one of its nodes is connected, and no node splits it.
func TestRingStaysConnected(t *testing.T) {
	rings := 0
	everyGraph(func(g [][]int, in []bool) {
		if !ring(t, g, in) {
			return
		}
		rings++
		if len(components(t, g, in)) != 1 {
			t.Error(len(g), in)
		}
		for x := range g {
			if in[x] && len(components(t, g, without(in, x))) != 1 {
				t.Error(len(g), in, x)
			}
			if splitsAt(t, g, in, in, x) || splitsAt(t, g, in, all(len(g)), x) {
				t.Error(len(g), in, x)
			}
		}
	})
	if rings < 10 {
		t.Error(rings)
	}
}

// R2: arguments and results that were returned stay as they were.
func TestPurity(t *testing.T) {
	r := source(11)
	var returned, copies [][]int
	keep := func(l ...[]int) {
		for _, x := range l {
			returned, copies = append(returned, x), append(copies, slices.Clone(x))
		}
	}
	for range 100 {
		g := someGraph(r)
		n := len(g)
		in, some := someSet(r, n), someSet(r, n)
		inBefore, someBefore := slices.Clone(in), slices.Clone(some)
		keep(g...)
		l, _ := graphs.Components(g, in)
		keep(l...)
		for x := range n {
			one, _ := graphs.Component(g, in, x)
			keep(one)
			graphs.Splits(g, in, some, x)
		}
		graphs.Check(g)
		graphs.Ring(g, in)
		if !slices.Equal(in, inBefore) || !slices.Equal(some, someBefore) {
			t.Error(g, in, some)
		}
		for i, l := range returned {
			if !slices.Equal(l, copies[i]) {
				t.Fatal(i, l, copies[i])
			}
		}
	}
}

// R3, R6: nil and empty lists of neighbors are the same, and equal calls return equal results, whatever lies behind the lists.
func TestEqualCalls(t *testing.T) {
	r := source(12)
	for range 100 {
		g := someGraph(r)
		other := make([][]int, len(g))
		for i, l := range g {
			other[i] = append(make([]int, 0, len(l)+r.IntN(3)), l...)
		}
		in := someSet(r, len(g))
		a, b := components(t, g, in), components(t, other, in)
		if !same(a, b) || !same(a, components(t, g, in)) {
			t.Error(g, in, a, b)
		}
	}
}
