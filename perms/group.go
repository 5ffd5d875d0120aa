package perms

import (
	"bytes"
	"slices"

	"gridwright/api"
)

// An element is a permutation in a form that can be the key of a map. What follows its numbers is 0.
type element [api.MaxCells]byte

func elementOf(p []int) (x element) {
	for i, image := range p {
		x[i] = byte(image)
	}
	return x
}

// numbers returns the first n numbers of an element.
func (x element) numbers(n int) []int {
	p := make([]int, n)
	for i := range p {
		p[i] = int(x[i])
	}
	return p
}

// A group is the elements that its generators generate.
type group struct {
	n        int
	gens     []element
	elements []element
	found    map[element]bool // the same elements
}

func trivialGroup(n int) *group {
	identity := make([]int, n)
	for i := range identity {
		identity[i] = i
	}
	g := &group{n: n, found: map[element]bool{}}
	g.put(elementOf(identity))
	return g
}

func (g *group) put(x element) {
	g.found[x] = true
	g.elements = append(g.elements, x)
}

// product returns the element that maps i to x[y[i]].
func (g *group) product(x, y element) (z element) {
	for i := range g.n {
		z[i] = x[y[i]]
	}
	return z
}

// extend adds a generator, and reports whether the group has not become too large.
// An element that the group contains adds nothing: so each generator that is kept at least doubles the group, and there are few.
func (g *group) extend(generator element) bool {
	if g.found[generator] {
		return true
	}
	g.gens = append(g.gens, generator)
	tooMany := false
search:
	for i := 0; i < len(g.elements); i++ {
		for _, y := range g.gens {
			z := g.product(g.elements[i], y)
			if g.found[z] {
				continue
			}
			if len(g.elements) == api.MaxGroup {
				tooMany = true
				break search
			}
			g.put(z)
		}
	}
	return !tooMany
}

// sorted returns the elements in increasing order.
func (g *group) sorted() [][]int {
	slices.SortFunc(g.elements, func(a, b element) int {
		return bytes.Compare(a[:], b[:])
	})
	l := make([][]int, 0, len(g.elements))
	for _, x := range g.elements {
		l = append(l, x.numbers(g.n))
	}
	return l
}
