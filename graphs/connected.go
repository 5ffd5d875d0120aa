package graphs

import (
	"iter"
	"slices"

	"gridwright/api"
)

// connected yields the nodes that are connected with a node of a set within the set, in the order in which they are found.
func connected(g [][]int, in set, start int) iter.Seq[int] {
	return func(yield func(int) bool) {
		var found [api.MaxCells]bool
		found[start] = true
		queue := []int{start}
		for i := 0; i < len(queue); i++ {
			if !yield(queue[i]) {
				return
			}
			for _, x := range g[queue[i]] {
				if in(x) && !found[x] {
					found[x] = true
					queue = append(queue, x)
				}
			}
		}
	}
}

// component returns the connected nodes in increasing order.
func component(g [][]int, in set, start int) []int {
	return slices.Sorted(connected(g, in, start))
}

func components(g [][]int, in set) (l [][]int) {
	var seen [api.MaxCells]bool
	for node := range g {
		if !in(node) || seen[node] {
			continue
		}
		c := component(g, in, node)
		for _, x := range c {
			seen[x] = true
		}
		l = append(l, c)
	}
	return l
}
