package graphs_test

import (
	"math"
	"math/rand/v2"
	"slices"
	"testing"

	"gridwright/api"
	"gridwright/graphs"
)

const mostNodes = 256

func source(seed uint64) *rand.Rand { return rand.New(rand.NewPCG(seed, 12)) }

// oddNodes are not nodes of any graph, but some have the low bits of one.
var oddNodes = []int{-1, -2, -255, -256, 256, 257, 1 << 16, 1 << 32, 1<<32 + 1, -1 << 32, math.MinInt, math.MinInt + 1, math.MaxInt}

// edges makes the graph with n nodes in which the nodes of each pair are neighbors.
func edges(n int, pairs ...[2]int) [][]int {
	g := make([][]int, n)
	for _, p := range pairs {
		g[p[0]] = append(g[p[0]], p[1])
		g[p[1]] = append(g[p[1]], p[0])
	}
	for i := range g {
		slices.Sort(g[i])
		g[i] = slices.Compact(g[i])
	}
	return g
}

func path(n int) [][]int {
	var l [][2]int
	for i := range n - 1 {
		l = append(l, [2]int{i, i + 1})
	}
	return edges(n, l...)
}

func cycle(n int) [][]int {
	var l [][2]int
	for i := range n {
		l = append(l, [2]int{i, (i + 1) % n})
	}
	return edges(n, l...)
}

func complete(n int) [][]int {
	var l [][2]int
	for i := range n {
		for j := range i {
			l = append(l, [2]int{i, j})
		}
	}
	return edges(n, l...)
}

func star(n, center int) [][]int {
	var l [][2]int
	for i := range n {
		if i != center {
			l = append(l, [2]int{center, i})
		}
	}
	return edges(n, l...)
}

// grid is w times h cells; the neighbors of a cell are beside, above and below it.
func grid(w, h int) [][]int {
	var l [][2]int
	for i := range w * h {
		if i%w < w-1 {
			l = append(l, [2]int{i, i + 1})
		}
		if i/w < h-1 {
			l = append(l, [2]int{i, i + w})
		}
	}
	return edges(w*h, l...)
}

// renamed gives the nodes of a graph other numbers.
func renamed(g [][]int, names []int) [][]int {
	var l [][2]int
	for i, neighbors := range g {
		for _, j := range neighbors {
			l = append(l, [2]int{names[i], names[j]})
		}
	}
	return edges(len(g), l...)
}

// graphsOf yields all graphs with n nodes.
func graphsOf(n int) func(yield func([][]int) bool) {
	var pairs [][2]int
	for i := range n {
		for j := range i {
			pairs = append(pairs, [2]int{j, i})
		}
	}
	return func(yield func([][]int) bool) {
		for bits := range 1 << len(pairs) {
			var l [][2]int
			for i, p := range pairs {
				if bits>>i&1 == 1 {
					l = append(l, p)
				}
			}
			if !yield(edges(n, l...)) {
				return
			}
		}
	}
}

// setsOf returns all sets of n nodes.
func setsOf(n int) (l [][]bool) {
	for bits := range 1 << n {
		in := make([]bool, n)
		for i := range in {
			in[i] = bits>>i&1 == 1
		}
		l = append(l, in)
	}
	return l
}

func all(n int) []bool { return slices.Repeat([]bool{true}, n) }

func none(n int) []bool { return make([]bool, n) }

func only(n int, nodes ...int) []bool {
	in := none(n)
	for _, x := range nodes {
		in[x] = true
	}
	return in
}

func without(in []bool, nodes ...int) []bool {
	in = slices.Clone(in)
	for _, x := range nodes {
		in[x] = false
	}
	return in
}

// someGraph returns a graph of at most 40 nodes, in which some pairs are neighbors.
func someGraph(r *rand.Rand) [][]int {
	n := r.IntN(41)
	var l [][2]int
	if n > 1 {
		for range r.IntN(2*n + 1) {
			i, j := r.IntN(n), r.IntN(n)
			if i != j {
				l = append(l, [2]int{i, j})
			}
		}
	}
	return edges(n, l...)
}

// someSet is a set of n nodes, of which more or fewer are in it.
func someSet(r *rand.Rand, n int) []bool {
	in, of := none(n), 1+r.IntN(6)
	for i := range in {
		in[i] = r.IntN(6) < of
	}
	return in
}

// largeGraphs are as large as graphs can be, or nearly.
func largeGraphs() map[string][][]int {
	r := source(1)
	var tree, few, many [][2]int
	for i := 1; i < mostNodes; i++ {
		tree = append(tree, [2]int{r.IntN(i), i})
	}
	for range 300 {
		i := r.IntN(mostNodes)
		few = append(few, [2]int{i, (i + 1 + r.IntN(mostNodes-1)) % mostNodes})
	}
	for range 20000 {
		i := r.IntN(mostNodes)
		many = append(many, [2]int{i, (i + 1 + r.IntN(mostNodes-1)) % mostNodes})
	}
	return map[string][][]int{
		"path":              path(mostNodes),
		"path, renamed":     renamed(path(mostNodes), r.Perm(mostNodes)),
		"cycle":             cycle(mostNodes),
		"cycle, renamed":    renamed(cycle(mostNodes), r.Perm(mostNodes)),
		"cycle of 255":      cycle(mostNodes - 1),
		"complete":          complete(mostNodes),
		"complete, of 255":  complete(mostNodes - 1),
		"star":              star(mostNodes, 0),
		"star, at the end":  star(mostNodes, mostNodes-1),
		"grid":              grid(16, 16),
		"grid, renamed":     renamed(grid(16, 16), r.Perm(mostNodes)),
		"narrow grid":       grid(2, 128),
		"without neighbors": edges(mostNodes),
		"tree":              edges(mostNodes, tree...),
		"few pairs":         edges(mostNodes, few...),
		"many pairs":        edges(mostNodes, many...),
	}
}

// isValid is the definition of a valid graph.
func isValid(g [][]int) bool {
	if len(g) > mostNodes {
		return false
	}
	for i, neighbors := range g {
		for k, j := range neighbors {
			if j < 0 || j >= len(g) || j == i || k > 0 && neighbors[k-1] >= j || !slices.Contains(g[j], i) {
				return false
			}
		}
	}
	return true
}

// namesOf gives the nodes of a set a name, the same one exactly to those that are connected: the least of them; other nodes get -1.
func namesOf(g [][]int, in []bool) []int {
	names := make([]int, len(g))
	for i := range names {
		names[i] = -1
		if in[i] {
			names[i] = i
		}
	}
	for changed := true; changed; {
		changed = false
		for i, neighbors := range g {
			for _, j := range neighbors {
				if in[i] && in[j] && names[i] < names[j] {
					names[j], changed = names[i], true
				}
			}
		}
	}
	return names
}

// componentsOf is the definition of the components of a set.
func componentsOf(g [][]int, in []bool) (l [][]int) {
	names := namesOf(g, in)
	for x := range g {
		var component []int
		for i, name := range names {
			if name == x {
				component = append(component, i)
			}
		}
		if component != nil {
			l = append(l, component)
		}
	}
	return l
}

// splits is the definition of Splits.
func splits(g [][]int, in, some []bool, at int) bool {
	if !in[at] {
		return false
	}
	names, rest := namesOf(g, in), namesOf(g, without(in, at))
	for a := range g {
		for b := range g {
			both := a != at && b != at && in[a] && in[b] && some[a] && some[b]
			if both && names[a] == names[b] && rest[a] != rest[b] {
				return true
			}
		}
	}
	return false
}

// isRing is the definition of a ring.
func isRing(g [][]int, in []bool) bool {
	nodes := 0
	for i := range g {
		if !in[i] {
			continue
		}
		nodes++
		neighbors := 0
		for _, j := range g[i] {
			if in[j] {
				neighbors++
			}
		}
		if neighbors != 2 {
			return false
		}
	}
	return nodes >= 3 && len(componentsOf(g, in)) == 1
}

func same(a, b [][]int) bool { return slices.EqualFunc(a, b, slices.Equal) }

func components(t *testing.T, g [][]int, in []bool) [][]int {
	t.Helper()
	l, e := graphs.Components(g, in)
	if e != api.OK {
		t.Fatal(len(g), in, e)
	}
	return l
}

func splitsAt(t *testing.T, g [][]int, in, some []bool, at int) bool {
	t.Helper()
	ok, e := graphs.Splits(g, in, some, at)
	if e != api.OK {
		t.Fatal(len(g), in, some, at, e)
	}
	return ok
}

func ring(t *testing.T, g [][]int, in []bool) bool {
	t.Helper()
	ok, e := graphs.Ring(g, in)
	if e != api.OK {
		t.Fatal(len(g), in, e)
	}
	return ok
}
